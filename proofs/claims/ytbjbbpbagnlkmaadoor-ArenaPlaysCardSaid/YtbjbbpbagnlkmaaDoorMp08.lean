/- Texts joined: NdP, NdQ, NdR, NfW. -/
import Derived.Test.YtbjbbpbagnlkmaaDoorMp07
import Derived.Deep.LoopGhost
set_option linter.all false
namespace Go.Proofs.YtbjbbpbagnlkmaaDoor
open Go.RowKit
theorem put_wrong {room : Nat} {s : Sh} {l : List Nd} (h : wrongF s 0 l = true) : putA room s l = (s, [], 1) := by unfold putA; rw [if_pos h]
theorem put_full {room : Nat} {s : Sh} {l : List Nd} (h : wrongF s 0 l = false) (h2 : putL room s [] l = none) : putA room s l = (s, [], 3) := by unfold putA; rw [if_neg (by rw [h]; decide), h2]
theorem put_good {room : Nat} {s s' : Sh} {l : List Nd} {out : List Int} (h : wrongF s 0 l = false) (h2 : putL room s [] l = some (s', out)) : putA room s l = (s', out, 0) := by unfold putA; rw [if_neg (by rw [h]; decide), h2]
theorem putL_next {room : Nat} {s s' : Sh} {l : List Nd} {i : Nat} {n : Nd} {out : List Int} {k : Int} (hi : l[i]? = some n) (h : oneA room s (asPut out n) = some (s', k)) : putL room s out (l.drop i) = putL room s' (out ++ [k]) (l.drop (i + 1)) := by
  obtain ⟨hl, he⟩ := List.getElem?_eq_some_iff.1 hi
  rw [List.drop_eq_getElem_cons hl, putL, he, h]
theorem putL_stop {room : Nat} {s : Sh} {l : List Nd} {i : Nat} {n : Nd} {out : List Int} (hi : l[i]? = some n) (h : oneA room s (asPut out n) = none) : putL room s out (l.drop i) = none := by
  obtain ⟨hl, he⟩ := List.getElem?_eq_some_iff.1 hi
  rw [List.drop_eq_getElem_cons hl, putL, he, h]
section
variable {w w' : World} {P Q : Nat → Prop} {m gN cN gB cB room : Nat} {nds : List Nd} {bs : List Bool}
set_option maxHeartbeats 16000000 in
set_option maxRecDepth 10000 in
theorem rPut_any (h : RM w P m gN cN gB cB room nds bs) (l : List Nd) (A : Option Addr) (ca : Nat) (hl : RowN w Q A l) (hQP : ∀ g, Q g → ¬ P g) (hll : l.length ≤ 1000000) (hlr : ∀ n ∈ l, n.refs.length ≤ 1000000 ∧ n.nums.length ≤ 1000000) :
    Calls Tryd.prog 24 #[.pointer (some ⟨m, 0, none⟩), .slice A l.length ca] w fun e w' => PutP w P m room nds bs l e w' := by
  obtain ⟨i0, hi0, hz0, hz1, hz2⟩ := info_parts int_info
  obtain ⟨i1, hi1, hy0, hy1, hy2⟩ := info_parts bool_info
  have HR := Lib.hid h
  have HL := Lib.hid hl
  have HQ := Lib.hid hQP
  have HLr := Lib.hid hlr
  have HWr := Lib.hid (rwrong_any h l Q A ca hl hll (fun n hn => (hlr n hn).1))
  have hone := h.one
  have hcap := h.cap
  have hsm := h.small
  have hlM := h.lM
  clear h hl hQP hlr
  cases hwf : wrongF (stOf nds bs) 0 l with
  | true =>
    have HP := Lib.hid (put_wrong (room := room) hwf)
    rw [hwf] at HWr
    clear hwf
    go_enter Tryd.func24, Tryd.ntmps24
    go_wp2_with fail
    refine HWr.out.mono ?_; rintro e w1 ⟨rfl, rfl⟩
    go_wp2_with fail
    go_ret2
    exact ⟨none, 0, gN, cN, gB, cB, nds, bs, [], 1, rfl, HP.out, .inl rfl, HR.out.mono fun _ h => .inl h, ButS.refl _ _⟩
  | false =>
    have HWf := Lib.hid hwf
    rw [hwf] at HWr
    have c2 := HR.out.c2
    have HB1 := Lib.hid (atR_bits HR.out.bits)
    have HBB : Hid (Below w.heap.size w (w.alloc (.cells #[] 4))) := Lib.hid ((Below.refl _ _).alloc (Nat.le_refl _) _)
    clear hwf
    go_enter Tryd.func24, Tryd.ntmps24
    go_wp2_with fail
    refine HWr.out.mono ?_; rintro e w1 ⟨rfl, rfl⟩
    go_wp2_with (at_builtin; refine of_stop ?_)
    refine stop_of ?_
    refine wpList_append_rows (f := boV) (n := 1) (E := 4) (nb := 1) (X := ([] : List Bool)) (base := w1.heap.size) rfl _ _ rfl rfl (own_lit0 w1 w1.heap.size (Nat.le_refl _)) (L2 := bs) rfl (fun i b hi j u hj => keep_cell HBB.out (HB1.out i b hi j u hj)) (by omega) (N := bs.length) (by simp) (Z := bs) rfl Tryd.underlying61 hi1 hy0 hy1 hy2 rfl (by decide) (by decide) (fun _ => rfl) boV_one (by omega) (by simp) ?_
    intro gW kW w2 ho2 hg2 hat2 hl2
    have hzW : w1.heap.size ≤ gW := by rcases hat2 with e | e; exact Nat.le_of_eq (own_of (g := w1.heap.size) rfl e).symm; simp at e; omega
    have hb2 : Below w1.heap.size w1 w2 := HBB.out.grown hg2 (by simp) (fun k hk => by have := own_of (g := w1.heap.size) rfl hk; omega)
    have hLP0 : LoopP w1 w2 P m room nds bs gW w2.heap.size [] (.slice none 0 0) gN cN gB cB nds bs :=
      ⟨((HR.out.tight).below hb2).mono fun g hg => ⟨.inl hg, fun e => by cases e⟩, Grew.refl _ _, ButS.of_below hb2, World.ownsRow_nil _ _ _ _, OwnR.at (fun _ => rfl) ho2 rfl, World.ownsRow.frozenAt ho2, hzW, hl2, Nat.le_refl _⟩
    have HLP := Lib.hid hLP0
    clear hLP0 ho2 hg2 hat2 c2
    go_wp2_with fail
    go_loopw [8, 9, 10, 11] (fun v vi _ _ wr => ∃ (i : Nat) (out : List Int) (gN1 cN1 gB1 cB1 : Nat) (nds1 : List Nd) (bs1 : List Bool), i ≤ l.length ∧ vi = .int .i64 (i : Int) ∧ Hid (putL room (stOf nds bs) [] l = putL room (stOf nds1 bs1) out (l.drop i)) ∧ Hid (out.length = i) ∧ Hid (LoopP w1 wr P m room nds bs gW w2.heap.size out v gN1 cN1 gB1 cB1 nds1 bs1)) (fun _ vi _ _ _ => l.length - (RowKit.intOf vi).toNat)
    case atStart => exact ⟨0, [], gN, cN, gB, cB, nds, bs, Nat.zero_le _, rfl, Lib.hid (by rw [List.drop_zero]), Lib.hid rfl, HLP⟩
    case round =>
      obtain ⟨i, out, gN1, cN1, gB1, cB1, nds1, bs1, hi, rfl, HT, Hol, HLp⟩ := hrel
      obtain ⟨O, co, hv, hO⟩ := own_rowI HLp.out.own
      by_cases hlt : i < l.length
      · obtain ⟨n, hn⟩ : ∃ n, l[i]? = some n := ⟨_, List.getElem?_eq_getElem hlt⟩
        obtain ⟨g, o, rfl, _, _, hat⟩ := (HL.out.kept (HLp.out.but.keptQ HQ.out)).at hlt
        obtain ⟨B, cb, C, cc, ⟨q0, q1, q2, q3⟩, hB, hC⟩ := hat i n hn
        have hwd := HLr.out n (List.mem_of_getElem? hn)
        have hrf : ∀ r ∈ n.refs, -(out.length : Int) ≤ r := fun r hr => by
          have := List.all_eq_true.1 (wrong_refs HWf.out hn) r hr
          rw [Hol.out]
          rw [Nat.zero_add] at this
          exact okRef_low this
        have HO := Lib.hid (rone_any HLp.out.rm n (fun _ => True) B C cb cc (hB.mono fun _ _ _ => trivial) (hC.mono fun _ _ _ => trivial) hwd.2 hwd.1 out O co (hO.mono fun _ _ _ => trivial) (by rw [Hol.out]; omega) hrf)
        have HNx := Lib.hid (fun k s' => putL_next (room := room) (s := stOf nds1 bs1) (out := out) (k := k) (s' := s') hn)
        have HSt := Lib.hid (putL_stop (room := room) (s := stOf nds1 bs1) (out := out) hn)
        have Hhv := Lib.hid hv
        unfold ndV at HO
        subst hv
        clear hat hB hC hO hrf hn hwd
        go_wp2_with fail
        refine HO.out.mono ?_; rintro e w3 hone1
        rcases hone1 with ⟨k, gN2, cN2, gB2, cB2, nds2, bs2, h1, rfl, hR2, hG2, hbut, _, _⟩ | ⟨h1, rfl, hb3⟩
        · have HL3 := Lib.hid (HLp.out.one hR2 hG2 hbut)
          have HT3 := Lib.hid (HT.out.trans (HNx.out k _ h1))
          clear h1 hR2 hG2 hbut HO
          have hsz3 := HL3.out.size
          go_wp2_with (at_builtin; refine of_stop ?_)
          refine stop_of ?_
          refine wpList_append_rows (f := inW) (n := 1) (E := 3) (nb := 8) (X := out) (base := w2.heap.size) rfl _ _ rfl rfl (OwnR.below HL3.out.own ((Below.refl _ _).alloc (Nat.le_refl _) _)) (L2 := [k]) rfl (one_row w3 k) (by simp) (N := i + 1) (by rw [Hol.out]; rfl) (Z := out ++ [k]) rfl Tryd.underlying33 hi0 hz0 hz1 hz2 rfl (by decide) (by decide) (fun _ => rfl) inW_one (by omega) (by simp; omega) ?_
          intro g4 k4 w4 ho4 hg4 hat4 hl4
          have HL4 := Lib.hid (HL3.out.app hg4 ho4 hat4)
          clear ho4 hg4 hat4 hl4
          go_wp2_with fail
          go_roundw
          case rel => exact ⟨i + 1, out ++ [k], gN2, cN2, gB2, cB2, nds2, bs2, by omega, by go_num, HT3, Lib.hid (by rw [List.length_append, Hol.out]; rfl), HL4⟩
          case measure => simp [RowKit.intOf]; omega
        · have HT3 := Lib.hid (HT.out.trans (HSt.out h1))
          have hR3 := HLp.out.rm.below hb3
          have HR3 := Lib.hid hR3
          have c1 := hR3.c1
          have f1 := hR3.fM 1
          have f2 := hR3.fM 2
          have hc2 := hR3.c2
          have hk := hR3.room'
          have hgl := HLp.out.grew.len
          have hln := hR3.len
          have Hb3 := Lib.hid hb3
          have hbk : bs.length ≤ cN1 := by omega
          have zm := hR3.lM
          clear hR3 h1 hb3 HO
          go_wp2_with fail
          go_ret2
          have hst : stOf (nds1.take bs.length) bs = stOf nds bs := st_ext HR.out.len (by rw [List.length_take]; omega) fun j hj => by
            have hjl := (List.getElem?_eq_some_iff.1 hj).1
            rw [List.getElem?_take, if_pos hjl]
            exact (HLp.out.grew.same j hj).2
          have hWl : ¬ LPr w1 P gW (.slice O out.length co) gW := fun e => (e.ne HLp.out.loW) rfl
          have hW3 : AtR boV 1 w3 gW 0 bs := fun i q hi j u hj => keep_cell Hb3.out (HLp.out.was i q hi j u hj)
          have hWlt : gW < w3.heap.size := by have := HLp.out.hiW; have := HLp.out.size; have := Hb3.out.size; omega
          have hWlt2 : gW < _ := Nat.lt_of_lt_of_le HLp.out.hiW HLp.out.size
          have hF3 : ∀ j, w3.frozen? ⟨gW, j, none⟩ = false := fun j => keep_frozen Hb3.out hWlt2 (HLp.out.froz j)
          have hcut := HR3.out.cut (kW := kW) hgl hone hW3 hF3 hWl hWlt
          have hpm := HLp.out.rm.pM
          refine ⟨none, 0, gN1, cN1, gW, kW, nds1.take bs.length, bs, [], 3, rfl, by rw [hst]; exact put_full HWf.out HT3.out, .inl rfl, hcut.mono (fun g hg => ?_), ?_⟩
          · rcases hg with hg | hg
            · rcases hg.1 with q | q
              · exact .inl q.1
              · exact .inr q.1
            · exact .inr (by rw [hg]; exact HLp.out.loW)
          · exact ((HLp.out.but.trans (ButS.of_below Hb3.out)).setCell (p := ⟨m, 2, none⟩) (.inl (hpm.old hlM)) _).setCell (p := ⟨m, 1, none⟩) (.inl (hpm.old hlM)) _
      · have hii : i = l.length := by omega
        subst hii
        have HP := Lib.hid (put_good HWf.out (by have := HT.out; rw [List.drop_length, putL] at this; exact this))
        have HOr := Lib.hid hO
        subst hv
        clear hO
        go_wp2_with fail
        go_ret2
        exact ⟨O, co, gN1, cN1, gB1, cB1, nds1, bs1, out, 0, rfl, HP.out, HOr.out.mono (fun g hg _ => by have := HLp.out.loW; have := HLp.out.hiW; omega), HLp.out.rm.mono (fun g hg => by rcases hg.1 with q | q; exact .inl q.1; exact .inr q.1), HLp.out.but⟩
end
end Go.Proofs.YtbjbbpbagnlkmaaDoor
namespace Go.Proofs.YtbjbbpbagnlkmaaDoor
open Go.RowKit
structure BI (w : World) (g : Nat) (ins : List Bool) : Prop where
  bits : ∀ (i : Nat) (b : Bool), ins[i]? = some b → w.cell? ⟨g, i, none⟩ = some (.bool b)
  froz : ∀ j, w.frozen? ⟨g, j, none⟩ = false
  lt : g < w.heap.size
theorem BI.set {w : World} {g : Nat} {ins : List Bool} (h : BI w g ins) {j : Nat} (hj : j < ins.length) : BI (w.setCell ⟨g, j, none⟩ (.bool true)) g (ins.set j true) := by
  refine ⟨fun i b hi => ?_, fun i => by rw [World.frozen?_setCell]; exact h.froz i, by simpa using h.lt⟩
  by_cases e : j = i
  · subst e
    rw [List.getElem?_set_self hj] at hi
    obtain rfl := Option.some.inj hi
    exact World.cell?_setCell_same _ _ _ (h.bits j _ (List.getElem?_eq_getElem hj))
  · rw [List.getElem?_set_ne e] at hi
    rw [World.cell?_setCell_other _ _ _ _ (fun e' => e (by have := congrArg Addr.off e'; exact this))]
    exact h.bits i b hi
theorem BI.below {w w' : World} {g : Nat} {ins : List Bool} (h : BI w g ins) (hb : Below w.heap.size w w') : BI w' g ins :=
  ⟨fun i b hi => keep_cell hb (h.bits i b hi), fun j => keep_frozen hb (by exact h.lt) (h.froz j), Nat.lt_of_lt_of_le h.lt hb.size⟩
theorem made_bits (n : Nat) : (madeCells (Value.bool false).cells (n * 1)).toList = (List.replicate n false).flatMap boV := by
  apply List.ext_getElem?
  intro i
  by_cases hi : i < n
  · have h1 : ((List.replicate n false).flatMap boV)[i]? = some (.bool false) := by
      have := flatR_at (f := boV) (n := 1) (fun _ => rfl) (List.replicate n false) i false (by rw [List.getElem?_replicate, if_pos hi]) 0 (.bool false) rfl
      simpa using this
    rw [h1]
    simp [madeCells, hi, Value.cells, Nat.mod_one]
  · rw [List.getElem?_eq_none_iff.2 (by simp [madeCells]; omega), List.getElem?_eq_none_iff.2 (by rw [flatR_len (f := boV) (n := 1) (fun _ => rfl)]; simp; omega)]
theorem BI.made {w : World} {base g n c : Nat} (h : w.ownsRow base 4 1 (.slice (some ⟨g, 0, none⟩) n c) n (madeCells (Value.bool false).cells (n * 1)).toList) : BI w g (List.replicate n false) := by
  rw [made_bits] at h
  have ho : OwnR 4 1 boV base w (.slice (some ⟨g, 0, none⟩) n c) (List.replicate n false) := by unfold OwnR; rw [List.length_replicate]; exact h
  exact ⟨bits_atR (OwnR.at (fun _ => rfl) ho (by rw [List.length_replicate])), World.ownsRow.frozenAt h, (World.ownsRow.lt h g rfl).2⟩
structure MkI (s : Sh) (roots : List Int) (n : Nat) (ins : List Bool) : Prop where
  len : ins.length = n
  sound : ∀ j : Nat, ins[j]? = some true → 1 ≤ j ∧ Rch s roots (j : Int)
def Hands (nds : List Nd) (ins : List Bool) (j k : Nat) : Prop := ∀ n, nds[j]? = some n → ∀ r ∈ n.refs.take k, 0 < r → ins[r.toNat]? = some true
theorem set_true {ins : List Bool} {i j : Nat} (h : ins[j]? = some true) : (ins.set i true)[j]? = some true := by
  by_cases e : i = j
  · subst e; rw [List.getElem?_set_self (List.getElem?_eq_some_iff.1 h).1]
  · rw [List.getElem?_set_ne e]; exact h
theorem MkI.set {s : Sh} {roots : List Int} {n : Nat} {ins : List Bool} {i : Nat} (h : MkI s roots n ins) (h1 : 1 ≤ i) (hr : Rch s roots (i : Int)) : MkI s roots n (ins.set i true) :=
  ⟨by rw [List.length_set]; exact h.len, fun j hj => by
    by_cases e : i = j
    · subst e; exact ⟨h1, hr⟩
    · rw [List.getElem?_set_ne e] at hj; exact h.sound j hj⟩
section
variable {w w' : World} {P Q : Nat → Prop} {m gN cN gB cB room : Nat} {nds : List Nd} {bs : List Bool}
set_option maxHeartbeats 16000000 in
set_option maxRecDepth 10000 in
theorem rReach_any (h : RM w P m gN cN gB cB room nds bs) (hinv : Inv room (stOf nds bs)) (roots : List Int) (R : Option Addr) (cr : Nat) (hR : RowI w Q R roots) (hrl : roots.length ≤ 1000000) :
    Calls Tryd.prog 23 #[.pointer (some ⟨m, 0, none⟩), .slice R roots.length cr] w fun e w' => ∃ A ca, e = .returned (.slice A (reachA (stOf nds bs) roots).length ca) ∧ RowI w' (fun g => w.heap.size ≤ g) A (reachA (stOf nds bs) roots) ∧ Below w.heap.size w w' := by
  obtain ⟨i0, hi0, hz0, hz1, hz2⟩ := info_parts int_info
  obtain ⟨i1, hi1, hy0, hy1, hy2⟩ := info_parts bool_info
  have HR := Lib.hid h
  have HI := Lib.hid hinv
  have HRo := Lib.hid hR
  have hone := h.one
  have hcap := h.cap
  have hsm := h.small
  have hlen := h.len
  have c2 := h.c2
  clear h hinv hR
  obtain ⟨w1, hmk, ho1, hg1⟩ := run_make_full (P := Tryd.prog) w w.heap.size 61 4 i1 (.bool false) 1 Tryd.underlying61 hi1 hy0 hy1 .i64 .i64 bs.length (by rw [hy2]; omega) (by unfold maxLen; omega) (Nat.le_refl _)
  have hb1 : Below w.heap.size w w1 := ⟨hg1.os, hg1.tape, hg1.output, hg1.size, fun k hk => hg1.block k hk (by simp)⟩
  have HB1 := Lib.hid (BI.made ho1)
  have HM1 : Hid (MkI (stOf nds bs) roots bs.length (List.replicate bs.length false)) := Lib.hid ⟨by simp, fun j hj => by rw [List.getElem?_replicate] at hj; split at hj <;> cases hj⟩
  have hgl := HB1.out.lt
  clear ho1 hg1
  go_enter Tryd.func23, Tryd.ntmps23
  go_wp2_with fail
  clear hmk c2
  go_loopw [6, 7] (fun vi _ wr => ∃ (i : Nat) (ins : List Bool), i ≤ roots.length ∧ vi = .int .i64 (i : Int) ∧ Hid (BI wr w.heap.size ins) ∧ Hid (MkI (stOf nds bs) roots bs.length ins) ∧ Hid (∀ r ∈ roots.take i, live (stOf nds bs) r = true → ins[r.toNat]? = some true) ∧ Below w.heap.size w wr) (fun vi _ _ => roots.length - (RowKit.intOf vi).toNat)
  case atStart => exact ⟨0, _, Nat.zero_le _, rfl, HB1, HM1, Lib.hid (fun r hr => by rw [List.take_zero] at hr; cases hr), hb1⟩
  case round =>
    obtain ⟨i, ins, hi, rfl, HB, HM, HC, hb⟩ := hrel
    have hr := HR.out.below hb
    have HRr := Lib.hid hr
    by_cases hlt : i < roots.length
    · obtain ⟨g, o, rfl, _, _, hc⟩ := HRo.out.at hlt
      obtain ⟨r, hrr⟩ : ∃ r, roots[i]? = some r := ⟨_, List.getElem?_eq_getElem hlt⟩
      have q0 := keep_cell hb (hc i r hrr)
      have HH := Lib.hid (rHas_any hr r)
      have Hrr := Lib.hid hrr
      have hlv := st_live' hlen r
      cases hv : live (stOf nds bs) r with
      | false =>
        rw [hv] at HH
        have HC2 : Hid (∀ r ∈ roots.take (i + 1), live (stOf nds bs) r = true → ins[r.toNat]? = some true) := Lib.hid fun r' hr' hl' => by
          rw [List.take_add_one, hrr] at hr'
          rcases List.mem_append.1 hr' with e | e
          · exact HC.out r' e hl'
          · obtain rfl : r' = r := by simpa using e
            rw [hv] at hl'; cases hl'
        clear hc hrr hr hlv hv
        go_wp2_with fail
        refine HH.out.mono ?_; rintro e w2 ⟨rfl, rfl⟩
        go_wp2_with fail
        go_roundw
        case rel => exact ⟨i + 1, ins, by omega, by go_num, HB, HM, HC2, hb⟩
        case measure => simp [RowKit.intOf]; omega
      | true =>
        have hbd := live_bound hv
        rw [st_len hlen] at hbd
        obtain ⟨j, rfl⟩ : ∃ j : Nat, r = (j : Int) := ⟨r.toNat, by omega⟩
        rw [hv] at HH
        have hji : j < ins.length := by rw [HM.out.len]; omega
        have sB := HB.out.bits j _ (List.getElem?_eq_getElem hji)
        have sF := HB.out.froz j
        have hjl : (j : Int) < (bs.length : Int) := by omega
        have HM2 := Lib.hid (HM.out.set (i := j) (by omega) (.root _ (List.mem_of_getElem? hrr) hv))
        have HC2 : Hid (∀ r ∈ roots.take (i + 1), live (stOf nds bs) r = true → (ins.set j true)[r.toNat]? = some true) := Lib.hid fun r' hr' hl' => by
          rw [List.take_add_one, hrr] at hr'
          rcases List.mem_append.1 hr' with e | e
          · exact set_true (HC.out r' e hl')
          · obtain rfl : r' = (j : Int) := by simpa using e
            rw [show ((j : Int)).toNat = j by omega, List.getElem?_set_self hji]
        have HB2 := Lib.hid (HB.out.set hji)
        clear hc hrr hr hlv hv hbd
        go_wp2_with fail
        refine HH.out.mono ?_; rintro e w2 ⟨rfl, rfl⟩
        go_wp2_with fail
        go_roundw
        case rel => exact ⟨i + 1, _, by omega, by go_num, HB2, HM2, HC2, hb.setCell (Nat.le_refl _) _⟩
        case measure => simp [RowKit.intOf]; omega
    · have hii : i = roots.length := by omega
      subst hii
      have HC0 : Hid (∀ r ∈ roots, live (stOf nds bs) r = true → ins[r.toNat]? = some true) := Lib.hid (by have := HC.out; rwa [List.take_length] at this)
      have HBa := HB
      have HMa := HM
      have hba := hb
      clear hr HRr HB HM HC hb hi hlt
      go_wp2_with fail
      go_loopg [8, 9, 10, 11] (2 * fls ins + 1) (fun gn vm _ _ _ wr2 => ∃ (ins2 : List Bool) (mo : Bool), gn = 2 * fls ins2 + (if mo then 1 else 0) ∧ vm = .bool mo ∧ Hid (BI wr2 w.heap.size ins2) ∧ Hid (MkI (stOf nds bs) roots bs.length ins2) ∧ Hid (∀ r ∈ roots, live (stOf nds bs) r = true → ins2[r.toNat]? = some true) ∧ Hid (mo = false → ∀ (j : Nat) (k : Nat), ins2[j]? = some true → Hands nds ins2 j k) ∧ Below w.heap.size w wr2)
      case atStart => exact ⟨ins, true, rfl, rfl, HBa, HMa, HC0, Lib.hid (fun e => by cases e), hba⟩
      case round =>
        obtain ⟨ins2, mo, hgn, rfl, HB2, HM2, HC2, HH2, hb2⟩ := hrel
        cases mo with
        | true =>
          clear HH2
          go_wp2_with fail
          go_loopw [8, 9, 10, 11] (fun vm vh _ _ wr3 => ∃ (h : Nat) (ins3 : List Bool) (mo : Bool), 1 ≤ h ∧ h ≤ bs.length ∧ vm = .bool mo ∧ vh = .int .i64 (h : Int) ∧ Hid (fls ins3 ≤ fls ins2 ∧ (mo = true → fls ins3 < fls ins2)) ∧ Hid (BI wr3 w.heap.size ins3) ∧ Hid (MkI (stOf nds bs) roots bs.length ins3) ∧ Hid (∀ r ∈ roots, live (stOf nds bs) r = true → ins3[r.toNat]? = some true) ∧ Hid (mo = false → ∀ (j : Nat) (k : Nat), j < h → ins3[j]? = some true → Hands nds ins3 j k) ∧ Below w.heap.size w wr3) (fun _ vh _ _ _ => bs.length - (RowKit.intOf vh).toNat)
          case atStart => exact ⟨1, ins2, false, Nat.le_refl _, hone, rfl, rfl, Lib.hid ⟨Nat.le_refl _, fun e => by cases e⟩, HB2, HM2, HC2, Lib.hid (fun _ j k hj hi => by have := (HM2.out.sound j hi).1; omega), hb2⟩
          case round =>
            obtain ⟨h, ins3, mo, h1, hh, rfl, rfl, HF3, HB3, HM3, HC3, HH3, hb3⟩ := hrel
            by_cases hlt : h < bs.length
            · obtain ⟨n, hn⟩ : ∃ n, nds[h]? = some n := ⟨_, List.getElem?_eq_getElem (by omega)⟩
              obtain ⟨B, cb, C, cc, ⟨_, q1, _, _⟩, hB, _⟩ := HR.out.rows h n hn
              have HQ := Lib.hid (And.intro HR.out.c1 (And.intro q1 hB))
              have Hn := Lib.hid hn
              have hwd := (HR.out.wide n (List.mem_of_getElem? hn)).1
              clear q1 hB hn
              go_wp2_with fail
              go_loopw [8, 10, 11] (fun vm vk _ wr4 => ∃ (k : Nat) (ins4 : List Bool) (mo : Bool), k ≤ n.refs.length ∧ vm = .bool mo ∧ vk = .int .i64 (k : Int) ∧ Hid (fls ins4 ≤ fls ins2 ∧ (mo = true → fls ins4 < fls ins2)) ∧ Hid (BI wr4 w.heap.size ins4) ∧ Hid (MkI (stOf nds bs) roots bs.length ins4) ∧ Hid (∀ r ∈ roots, live (stOf nds bs) r = true → ins4[r.toNat]? = some true) ∧ Hid (mo = false → ∀ (j : Nat) (k' : Nat), j < h → ins4[j]? = some true → Hands nds ins4 j k') ∧ Hid (∀ r ∈ n.refs.take k, 0 < r → ins4[r.toNat]? = some true) ∧ Below w.heap.size w wr4) (fun _ vk _ _ => n.refs.length - (RowKit.intOf vk).toNat)
              case atStart => exact ⟨0, ins3, mo, Nat.zero_le _, rfl, rfl, HF3, HB3, HM3, HC3, HH3, Lib.hid (fun r hr => by rw [List.take_zero] at hr; cases hr), hb3⟩
              case round =>
                obtain ⟨k, ins4, mo, hk, rfl, rfl, HF4, HB4, HM4, HC4, HH4, HK4, hb4⟩ := hrel
                have hhl : h < ins4.length := by rw [HM4.out.len]; omega
                obtain ⟨b, hbb⟩ : ∃ b, ins4[h]? = some b := ⟨_, List.getElem?_eq_getElem hhl⟩
                have sH := HB4.out.bits h b hbb
                have c1 := keep_cell hb4 HQ.out.1
                have q1 := keep_cell hb4 HQ.out.2.1
                have hI : (h : Int) < (nds.length : Int) := by omega
                have hI2 : (h : Int) < (bs.length : Int) := by omega
                have hE : ∀ (hl : b = true → n.refs.length ≤ k), Hid (mo = false → ∀ (j : Nat) (k' : Nat), j < h + 1 → ins4[j]? = some true → Hands nds ins4 j k') := fun hl => Lib.hid fun hm j k' hj hi => by
                  by_cases e : j = h
                  · subst e
                    rw [hbb] at hi
                    have hbt : b = true := Option.some.inj hi
                    intro n' hn' r hr hp
                    rw [Hn.out] at hn'
                    obtain rfl := Option.some.inj hn'
                    have hkl := hl hbt
                    refine HK4.out r ?_ hp
                    rw [List.take_of_length_le hkl]
                    exact List.mem_of_mem_take hr
                  · exact HH4.out hm j k' (by omega) hi
                have HE := Lib.hid hE
                clear hE
                cases b with
                | false =>
                  have HE2 := HE.out (fun e => by cases e)
                  clear HE hbb
                  go_wp2_with fail
                  go_roundw
                  case rel => exact ⟨h + 1, ins4, mo, by omega, by omega, rfl, by go_num, HF4, HB4, HM4, HC4, HE2, hb4⟩
                  case measure => simp [RowKit.intOf]; omega
                | true =>
                  by_cases hkl : k < n.refs.length
                  · obtain ⟨g2, o2, rfl, _, _, hc⟩ := (HQ.out.2.2).at hkl
                    obtain ⟨r, hr⟩ : ∃ r, n.refs[k]? = some r := ⟨_, List.getElem?_eq_getElem hkl⟩
                    have q2 := keep_cell hb4 (hc k r hr)
                    have hkI : (k : Int) < (n.refs.length : Int) := by omega
                    have hRh := (HM4.out.sound h hbb).2
                    have hnA : ndAt (stOf nds bs) (h : Int) = some n := by
                      rw [st_ndAt hlen h h1, if_pos ((st_live hlen h h1).1 (rch_live HI.out hRh))]; exact Hn.out
                    clear HE hc
                    by_cases hp : 0 < r
                    · have hlv : live (stOf nds bs) r = true := by
                        rcases HI.out.shut _ n hnA r (List.mem_of_getElem? hr) with e | e
                        · omega
                        · exact e
                      have hbd := live_bound hlv
                      rw [st_len hlen] at hbd
                      obtain ⟨j, rfl⟩ : ∃ j : Nat, r = (j : Int) := ⟨r.toNat, by omega⟩
                      have hRr : Rch (stOf nds bs) roots (j : Int) := .ref _ _ n hRh hnA (List.mem_of_getElem? hr) hp
                      have hji : j < ins4.length := by rw [HM4.out.len]; omega
                      have hjl : (j : Int) < (bs.length : Int) := by omega
                      obtain ⟨c, hcj⟩ : ∃ c, ins4[j]? = some c := ⟨_, List.getElem?_eq_getElem hji⟩
                      have sB := HB4.out.bits j _ hcj
                      have sF := HB4.out.froz j
                      have dp : decide ((0 : Int) < (j : Int)) = true := decide_eq_true hp
                      have dpN : decide (0 < j) = true := decide_eq_true (by omega)
                      cases c with
                      | true =>
                        have HK5 : Hid (∀ r ∈ n.refs.take (k + 1), 0 < r → ins4[r.toNat]? = some true) := Lib.hid fun r' hr' hp' => by
                          rw [List.take_add_one, hr] at hr'
                          rcases List.mem_append.1 hr' with e | e
                          · exact HK4.out r' e hp'
                          · obtain rfl : r' = (j : Int) := by simpa using e
                            rw [show ((j : Int)).toNat = j by omega]; exact hcj
                        clear hbb hr hRh hnA hlv hbd hRr hcj hp
                        go_wp2_with fail
                        go_roundw
                        case rel => exact ⟨k + 1, ins4, mo, by omega, rfl, by go_num, HF4, HB4, HM4, HC4, HH4, HK5, hb4⟩
                        case measure => simp [RowKit.intOf]; omega
                      | false =>
                        have hfl := fls_set ins4 j hcj
                        have HF5 : Hid (fls (ins4.set j true) ≤ fls ins2 ∧ (true = true → fls (ins4.set j true) < fls ins2)) := Lib.hid ⟨by have := HF4.out.1; omega, fun _ => by have := HF4.out.1; omega⟩
                        have HM5 := Lib.hid (HM4.out.set (i := j) (by omega) hRr)
                        have HB5 := Lib.hid (HB4.out.set hji)
                        have HC5 : Hid (∀ r ∈ roots, live (stOf nds bs) r = true → (ins4.set j true)[r.toNat]? = some true) := Lib.hid fun r' hr' hl' => set_true (HC4.out r' hr' hl')
                        have HK5 : Hid (∀ r ∈ n.refs.take (k + 1), 0 < r → (ins4.set j true)[r.toNat]? = some true) := Lib.hid fun r' hr' hp' => by
                          rw [List.take_add_one, hr] at hr'
                          rcases List.mem_append.1 hr' with e | e
                          · exact set_true (HK4.out r' e hp')
                          · obtain rfl : r' = (j : Int) := by simpa using e
                            rw [show ((j : Int)).toNat = j by omega, List.getElem?_set_self hji]
                        have HH5 : Hid (true = false → ∀ (j' : Nat) (k' : Nat), j' < h → (ins4.set j true)[j']? = some true → Hands nds (ins4.set j true) j' k') := Lib.hid (fun e => by cases e)
                        clear hbb hr hRh hnA hlv hbd hRr hcj hp hfl
                        go_wp2_with fail
                        go_roundw
                        case rel => exact ⟨k + 1, ins4.set j true, true, by omega, rfl, by go_num, HF5, HB5, HM5, HC5, HH5, HK5, hb4.setCell (Nat.le_refl _) _⟩
                        case measure => simp [RowKit.intOf]; omega
                    · have dp : decide ((0 : Int) < r) = false := decide_eq_false hp
                      have HK5 : Hid (∀ r ∈ n.refs.take (k + 1), 0 < r → ins4[r.toNat]? = some true) := Lib.hid fun r' hr' hp' => by
                        rw [List.take_add_one, hr] at hr'
                        rcases List.mem_append.1 hr' with e | e
                        · exact HK4.out r' e hp'
                        · obtain rfl : r' = r := by simpa using e
                          exact absurd hp' hp
                      clear hbb hr hRh hnA hp
                      go_wp2_with fail
                      go_roundw
                      case rel => exact ⟨k + 1, ins4, mo, by omega, rfl, by go_num, HF4, HB4, HM4, HC4, HH4, HK5, hb4⟩
                      case measure => simp [RowKit.intOf]; omega
                  · have HE2 := HE.out (fun _ => by omega)
                    have hkI : decide ((k : Int) < (n.refs.length : Int)) = false := decide_eq_false (by omega)
                    clear HE hbb
                    go_wp2_with fail
                    go_roundw
                    case rel => exact ⟨h + 1, ins4, mo, by omega, by omega, rfl, by go_num, HF4, HB4, HM4, HC4, HE2, hb4⟩
                    case measure => simp [RowKit.intOf]; omega
            · have hhh : h = bs.length := by omega
              subst hhh
              have HH4 : Hid (mo = false → ∀ (j : Nat) (k : Nat), ins3[j]? = some true → Hands nds ins3 j k) := Lib.hid fun e j k hj => HH3.out e j k (by have := (List.getElem?_eq_some_iff.1 hj).1; rw [HM3.out.len] at this; exact this) hj
              have hf3 := HF3.out
              go_wp2_with fail
              go_roundg (2 * fls ins3 + (if mo then 1 else 0))
              case measure => rw [hgn]; cases mo <;> simp at hf3 ⊢ <;> omega
              case rel => exact ⟨ins3, mo, rfl, rfl, HB3, HM3, HC3, HH4, hb3⟩
        | false =>
          have HZ := Lib.hid (st_reach (room := room) hlen HM2.out.len HI.out (rch_marks hlen (fun i h1 hi => (HM2.out.sound i hi).2) HC2.out (fun i n h1 hi hn r hr hp => HH2.out rfl i n.refs.length hi n hn r (by rw [List.take_length]; exact hr) hp)))
          have HDa := Lib.hid (fun i : Nat => show (ins2.drop 1)[i]? = ins2[i + 1]? by rw [List.getElem?_drop, Nat.add_comm 1 i])
          have HDl : Hid ((ins2.drop 1).length = bs.length - 1) := Lib.hid (by rw [List.length_drop, HM2.out.len])
          have HIl := Lib.hid HM2.out.len
          generalize hLVe : reachA (stOf nds bs) roots = LV at *
          have HLV := Lib.hid hLVe
          clear hLVe
          generalize ins2.drop 1 = D at *
          have hsz2 := hb2.size
          clear HH2 HC2 HM2 HC0 HBa HMa HM1 HB1 hba HRo hgn
          go_wp2_with fail
          go_loopw [12, 13] (fun v vi wr => ∃ i : Nat, i + 1 ≤ bs.length ∧ vi = .int .i64 ((i : Int) + 1) ∧ Hid (BI wr w.heap.size ins2) ∧ Hid (OwnR 3 1 inW (w.heap.size + 1) wr v (tru 1 (D.take i))) ∧ Below w.heap.size w wr ∧ w.heap.size < wr.heap.size) (fun _ vi _ => bs.length - (RowKit.intOf vi).toNat)
          case atStart => exact ⟨0, by omega, rfl, HB2, Lib.hid (by rw [List.take_zero]; exact World.ownsRow_nil _ _ _ _), hb2, HB2.out.lt⟩
          case round =>
            obtain ⟨i, hi, rfl, HB, HO, hb, hsl⟩ := hrel
            by_cases hlt : i + 1 < bs.length
            · obtain ⟨b, hbb⟩ : ∃ b, ins2[i + 1]? = some b := ⟨_, List.getElem?_eq_getElem (by rw [HIl.out]; exact hlt)⟩
              have q0 := HB.out.bits _ _ hbb
              have HT := Lib.hid (tru_take (l := D) (i := i) (b := b) ((HDa.out i).trans hbb) 1)
              have hlT : (tru 1 (D.take i)).length ≤ 65536 := by
                have := tru_len (D.take i) 1
                rw [List.length_take] at this
                omega
              clear hbb
              cases b with
              | false =>
                have HT2 : Hid (tru 1 (D.take (i + 1)) = tru 1 (D.take i)) := Lib.hid (by rw [HT.out]; simp)
                go_wp2_with fail
                go_roundw
                case rel => exact ⟨i + 1, by omega, by go_num, HB, by rw [HT2.out]; exact HO, hb, hsl⟩
                case measure => simp [RowKit.intOf]; omega
              | true =>
                have HT2 : Hid (tru 1 (D.take i) ++ [(i : Int) + 1] = tru 1 (D.take (i + 1))) := Lib.hid (by rw [HT.out, Int.add_comm]; rfl)
                have hbs := hb.size
                go_wp2_with (at_builtin; refine of_stop ?_)
                refine stop_of ?_
                refine wpList_append_rows (f := inW) (n := 1) (E := 3) (nb := 8) (X := tru 1 (D.take i)) (base := w.heap.size + 1) rfl _ _ rfl rfl (OwnR.below HO.out ((Below.refl _ _).alloc (Nat.le_refl _) _)) (L2 := [(i : Int) + 1]) rfl (one_row wr ((i : Int) + 1)) (by simp) (N := (tru 1 (D.take i)).length + 1) rfl (Z := tru 1 (D.take (i + 1))) HT2.out Tryd.underlying33 hi0 hz0 hz1 hz2 rfl (by decide) (by decide) (fun _ => rfl) inW_one (by omega) (by simp; omega) ?_
                intro g2 k2 w2 ho2 hg2 hat2 hl2
                have hb2' : Below (w.heap.size + 1) wr w2 := ((Below.refl _ _).alloc (by omega) _).grown hg2 (by simp; omega) (fun k hk => (World.ownsRow.lt HO.out k hk).1)
                have HB3 : Hid (BI w2 w.heap.size ins2) := Lib.hid ⟨fun j b hj => by rw [hb2'.cell (by show w.heap.size < _; omega)]; exact HB.out.bits j b hj, fun j => by rw [hb2'.frozen (by show w.heap.size < _; omega)]; exact HB.out.froz j, Nat.lt_of_lt_of_le HB.out.lt hb2'.size⟩
                have HO2 := Lib.hid ho2
                have hbw := hb.trans (hb2'.mono (Nat.le_succ _))
                have hs2 := hb2'.size
                clear ho2 hg2 hat2 hl2 hb2'
                go_wp2_with fail
                go_roundw
                case rel => exact ⟨i + 1, by omega, by go_num, HB3, HO2, hbw, by omega⟩
                case measure => simp [RowKit.intOf]; omega
            · have hii : i = bs.length - 1 := by omega
              have HO2 : Hid (OwnR 3 1 inW (w.heap.size + 1) wr _ LV) := Lib.hid (by rw [HZ.out]; have := HO.out; rwa [hii, List.take_of_length_le (by rw [HDl.out]; omega)] at this)
              obtain ⟨A, cap, rfl, hA⟩ := own_rowI HO2.out
              go_wp2_with fail
              go_ret
              rw [HLV.out]
              exact ⟨A, cap, rfl, hA.mono (fun g hg _ => by omega), hb⟩
end
end Go.Proofs.YtbjbbpbagnlkmaaDoor
namespace Go.Proofs.YtbjbbpbagnlkmaaDoor
open Go.RowKit
theorem reach_mem {room : Nat} {s : Sh} (hi : Inv room s) {roots : List Int} {h : Int} : h ∈ reachA s roots ↔ Rch s roots h := by
  unfold reachA
  rw [liveA_mem, left_live hi]
theorem sweep_no {s : Sh} {roots : List Int} {i : Nat} {r : Int} (hr : roots[i]? = some r) (h0 : r ≠ 0) (hl : live s r = false) : sweepA s roots = (s, 0, 4) := by
  unfold sweepA
  rw [if_neg]
  intro h
  have := List.all_eq_true.1 h r (List.mem_of_getElem? hr)
  simp [h0, hl] at this
theorem sweep_yes {s : Sh} {roots : List Int} (h : roots.all (fun r => decide (r = 0) || live s r) = true) : sweepA s roots = (leftA s roots, (liveA s).length - (reachA s roots).length, 0) := by
  unfold sweepA; rw [if_pos h]
theorem alls_next {p : Int → Bool} {l : List Int} {k : Nat} {r : Int} (hk : l[k]? = some r) (h : (l.take k).all p = true) (hr : p r = true) : (l.take (k + 1)).all p = true := all_next hk h hr
section
variable {w w' : World} {P Q : Nat → Prop} {m gN cN gB cB room : Nat} {nds : List Nd} {bs : List Bool}
theorem RM.reset (h : RM w P m gN cN gB cB room nds bs) {js : List Bool} {gW kW : Nat} (hj : js.length = bs.length) (hW : BI w gW js) (hP : ¬ P gW) :
    RM (w.setCell ⟨m, 2, none⟩ (.slice (some ⟨gW, 0, none⟩) bs.length kW)) (fun g => P g ∨ g = gW) m gN cN gW kW room nds js := by
  have hm : m ≠ gW := fun e => hP (e ▸ h.pM)
  have hN : gN ≠ gW := fun e => hP (e ▸ h.pN)
  have hmc := h.mc.set2 (.slice (some ⟨gW, 0, none⟩) bs.length kW)
  have hbut : ButS (fun g => g = m) w (w.setCell ⟨m, 2, none⟩ (.slice (some ⟨gW, 0, none⟩) bs.length kW)) := (ButS.refl (fun g => g = m) w).setCell (p := ⟨m, 2, none⟩) (.inl rfl) _
  have hfr : ∀ p, (w.setCell ⟨m, 2, none⟩ (.slice (some ⟨gW, 0, none⟩) bs.length kW)).frozen? p = w.frozen? p := fun p => by rw [World.frozen?_setCell]
  have hnM : gN ≠ m := h.nMN.symm
  have hkI : ∀ (A : Option Addr) (l : List Int), RowI w (fun g => P g ∧ g ≠ m ∧ g ≠ gN ∧ g ≠ gB) A l → RowI (w.setCell ⟨m, 2, none⟩ (.slice (some ⟨gW, 0, none⟩) bs.length kW)) (fun g => (P g ∨ g = gW) ∧ g ≠ m ∧ g ≠ gN ∧ g ≠ gW) A l := fun A l hR =>
    (hR.mono (Q := fun g => (P g ∨ g = gW) ∧ g ≠ m ∧ g ≠ gN ∧ g ≠ gW) fun g hg _ => ⟨.inl hg.1, hg.2.1, hg.2.2.1, fun e => hP (e ▸ hg.1)⟩).kept (hbut.keptQ fun g hg => hg.2.1)
  refine ⟨hmc.c0, hmc.c1, by rw [hj]; exact hmc.c2, hmc.fM, fun j => by rw [hfr]; exact h.fN j, fun j => by rw [hfr]; exact hW.froz j, .inl h.pM, .inl h.pN, .inr rfl, h.nMN, hm, hN, Nat.lt_of_lt_of_le h.lN hbut.size, Nat.lt_of_lt_of_le hW.lt hbut.size, fun i n hi => ?_, fun i b hi => hbut.cell (by exact hm.symm) (hW.bits i b hi), h.len.trans hj.symm, by rw [hj]; exact h.one, by rw [hj]; exact h.cap, h.small, h.wide, h.room'⟩
  obtain ⟨B, cb, C, cc, ⟨q0, q1, q2, q3⟩, hR, hN'⟩ := h.rows i n hi
  exact ⟨B, cb, C, cc, ⟨hbut.cell hnM q0, hbut.cell hnM q1, hbut.cell hnM q2, hbut.cell hnM q3⟩, hkI _ _ hR, hkI _ _ hN'⟩
def SweepP (w : World) (P : Nat → Prop) (m gN cN room : Nat) (nds : List Nd) (bs : List Bool) (roots : List Int) (e : Ending) (w' : World) : Prop :=
  ∃ gB' cB' bs' n c, e = .returned (.tuple #[.int .i64 ((n : Nat) : Int), .int .i64 ((c : Nat) : Int)]) ∧ sweepA (stOf nds bs) roots = (stOf nds bs', n, c) ∧ RM w' (fun g => P g ∨ w.heap.size ≤ g) m gN cN gB' cB' room nds bs' ∧ ButS P w w'
set_option maxHeartbeats 16000000 in
set_option maxRecDepth 10000 in
theorem rSweep_any (h : RM w P m gN cN gB cB room nds bs) (hinv : Inv room (stOf nds bs)) (roots : List Int) (R : Option Addr) (cr : Nat) (hR : RowI w Q R roots) (hrl : roots.length ≤ 1000000) :
    Calls Tryd.prog 22 #[.pointer (some ⟨m, 0, none⟩), .slice R roots.length cr] w fun e w' => SweepP w P m gN cN room nds bs roots e w' := by
  obtain ⟨i1, hi1, hy0, hy1, hy2⟩ := info_parts bool_info
  have HR := Lib.hid h
  have HI := Lib.hid hinv
  have HRo := Lib.hid hR
  have hone := h.one
  have hcap := h.cap
  have hsm := h.small
  have hlen := h.len
  have HRe := Lib.hid (rReach_any h hinv roots R cr hR hrl)
  clear h hinv hR
  go_enter Tryd.func22, Tryd.ntmps22
  go_wp2_with fail
  go_loopw [6, 7] (fun vi _ wr => ∃ i : Nat, i ≤ roots.length ∧ vi = .int .i64 (i : Int) ∧ Hid ((roots.take i).all (fun r => decide (r = 0) || live (stOf nds bs) r) = true) ∧ wr = w) (fun vi _ _ => roots.length - (RowKit.intOf vi).toNat)
  case atStart => exact ⟨0, Nat.zero_le _, rfl, Lib.hid (by rw [List.take_zero]; rfl), rfl⟩
  case round =>
    obtain ⟨i, hi, rfl, HA, rfl⟩ := hrel
    by_cases hlt : i < roots.length
    · obtain ⟨g, o, rfl, _, _, hc⟩ := HRo.out.at hlt
      obtain ⟨r, hrr⟩ : ∃ r, roots[i]? = some r := ⟨_, List.getElem?_eq_getElem hlt⟩
      have q0 := hc i r hrr
      have HH := Lib.hid (rHas_any HR.out r)
      have HN := Lib.hid (fun h => alls_next (p := fun r => decide (r = 0) || live (stOf nds bs) r) hrr HA.out h)
      have HS := Lib.hid (fun h0 hl => sweep_no (s := stOf nds bs) hrr h0 hl)
      clear hc hrr
      generalize hVe : live (stOf nds bs) r = V at *
      clear hVe
      by_cases h0 : r = 0
      · have dz : (r != 0) = false := by simp [h0]
        have HN2 := Lib.hid (HN.out (by simp [h0]))
        clear h0 HN HS
        go_wp2_with fail
        refine HH.out.mono ?_; rintro e w2 ⟨rfl, rfl⟩
        go_wp2_with fail
        go_roundw
        case rel => exact ⟨i + 1, by omega, by go_num, HN2, trivial⟩
        case measure => simp [RowKit.intOf]; omega
      · have dz : (r != 0) = true := by simp [h0]
        cases V with
        | true =>
          have HN2 := Lib.hid (HN.out (by simp))
          clear h0 HN HS
          go_wp2_with fail
          refine HH.out.mono ?_; rintro e w2 ⟨rfl, rfl⟩
          go_wp2_with fail
          go_roundw
          case rel => exact ⟨i + 1, by omega, by go_num, HN2, trivial⟩
          case measure => simp [RowKit.intOf]; omega
        | false =>
          have HS2 := Lib.hid (HS.out h0 rfl)
          clear h0 HN HS
          go_wp2_with fail
          refine HH.out.mono ?_; rintro e w2 ⟨rfl, rfl⟩
          go_wp2_with fail
          go_ret2
          exact ⟨gB, cB, bs, 0, 4, rfl, HS2.out, HR.out.mono fun _ h => .inl h, ButS.refl _ _⟩
    · have hii : i = roots.length := by omega
      subst hii
      have HSy := Lib.hid (sweep_yes (s := stOf nds bs) (roots := roots) (by have := HA.out; rwa [List.take_length] at this))
      clear HA
      go_wp2_with fail
      refine HRe.out.mono ?_; rintro e w1 ⟨L, cl, rfl, hL, hb1⟩
      have HR1 := Lib.hid (HR.out.below hb1)
      have HL1 := Lib.hid hL
      have HB1 := Lib.hid hb1
      clear hL hb1
      go_wp2_with fail
      refine (rLive_any HR1.out).mono ?_; rintro e w2 ⟨W, cw, rfl, hW, hb2⟩
      have HR2 := Lib.hid (HR1.out.below hb2)
      have HL2 := Lib.hid (HL1.out.below hb2)
      have HB2 := Lib.hid (HB1.out.trans (hb2.mono HB1.out.size))
      have c2 := HR2.out.c2
      obtain ⟨w3, hmk, ho3, hg3⟩ := run_make_full (P := Tryd.prog) w2 w2.heap.size 61 4 i1 (.bool false) 1 Tryd.underlying61 hi1 hy0 hy1 .i64 .i64 bs.length (by rw [hy2]; omega) (by unfold maxLen; omega) (Nat.le_refl _)
      have hb3 : Below w2.heap.size w2 w3 := ⟨hg3.os, hg3.tape, hg3.output, hg3.size, fun k hk => hg3.block k hk (by simp)⟩
      have HBI := Lib.hid (BI.made ho3)
      have hgl := HBI.out.lt
      have HMem := Lib.hid (fun h : Int => reach_mem HI.out (roots := roots) (h := h))
      have hLl : (reachA (stOf nds bs) roots).length ≤ (liveA (stOf nds bs)).length := left_len _ _
      have hWl : (liveA (stOf nds bs)).length ≤ 65536 := by have := liveF_len (stOf nds bs) 1; rw [st_len hlen] at this; unfold liveA; omega
      clear hW hb2 ho3 hg3
      generalize hLe : reachA (stOf nds bs) roots = LV at *
      generalize hWe : liveA (stOf nds bs) = WV at *
      clear hLe hWe
      go_wp2_with fail
      clear hmk c2
      go_loopw [11] (fun vi wr => ∃ (i : Nat) (js : List Bool), i ≤ LV.length ∧ vi = .int .i64 (i : Int) ∧ js.length = bs.length ∧ Hid (BI wr w2.heap.size js) ∧ Hid (∀ j : Nat, js[j]? = some true ↔ (j : Int) ∈ LV.take i) ∧ Below w2.heap.size w2 wr) (fun vi _ => LV.length - (RowKit.intOf vi).toNat)
      case atStart => exact ⟨0, _, Nat.zero_le _, rfl, by simp, HBI, Lib.hid (fun j => by rw [List.take_zero, List.getElem?_replicate]; split <;> simp), hb3⟩
      case round =>
        obtain ⟨i, js, hi, rfl, hjl, HB, HM, hb⟩ := hrel
        by_cases hlt : i < LV.length
        · obtain ⟨g, o, rfl, _, _, hc⟩ := (HL2.out.below hb).at hlt
          obtain ⟨x, hx⟩ : ∃ x, LV[i]? = some x := ⟨_, List.getElem?_eq_getElem hlt⟩
          have q0 := hc i x hx
          have hbd := live_bound (rch_live HI.out ((HMem.out x).1 (List.mem_of_getElem? hx)))
          rw [st_len hlen] at hbd
          obtain ⟨j, rfl⟩ : ∃ j : Nat, x = (j : Int) := ⟨x.toNat, by omega⟩
          have hji : j < js.length := by omega
          have sB := HB.out.bits j _ (List.getElem?_eq_getElem hji)
          have sF := HB.out.froz j
          have hjI : (j : Int) < (bs.length : Int) := by omega
          have HB2' := Lib.hid (HB.out.set hji)
          have HM2 : Hid (∀ j' : Nat, (js.set j true)[j']? = some true ↔ (j' : Int) ∈ LV.take (i + 1)) := Lib.hid fun j' => by
            rw [List.take_add_one, hx, List.mem_append]
            by_cases e : j = j'
            · subst e
              rw [List.getElem?_set_self hji]
              simp
            · rw [List.getElem?_set_ne e, HM.out j']
              have : ¬ ((j' : Int) = (j : Int)) := by omega
              simp [this]
          clear hc hx hbd
          go_wp2_with fail
          go_roundw
          case rel => exact ⟨i + 1, js.set j true, by omega, by go_num, by rw [List.length_set]; exact hjl, HB2', HM2, hb.setCell (Nat.le_refl _) _⟩
          case measure => simp [RowKit.intOf]; omega
        · have hii : i = LV.length := by omega
          subst hii
          have HMf : Hid (∀ j : Nat, js[j]? = some true ↔ Rch (stOf nds bs) roots (j : Int)) := Lib.hid fun j => by rw [HM.out j, List.take_length]; exact HMem.out _
          have HRr := Lib.hid ((HR2.out.tight).below hb)
          have c2 := HRr.out.c2
          have f2 := HRr.out.fM 2
          have HRs := Lib.hid (RM.reset (kW := bs.length) HRr.out hjl HB.out (fun e => by have := e.2; omega))
          have HSt := Lib.hid (st_left (room := room) hlen hjl HI.out (fun i _ => HMf.out i))
          have hB2s := HB2.out.size
          go_wp2_with fail
          go_ret2
          refine ⟨w2.heap.size, bs.length, js, WV.length - LV.length, 0, ?_, ?_, HRs.out.mono (fun g hg => ?_), ?_⟩
          · show Ending.returned (.tuple #[.int .i64 ((WV.length : Int) - (LV.length : Int)), .int .i64 0]) = _
            rw [show (WV.length : Int) - (LV.length : Int) = ((WV.length - LV.length : Nat) : Int) by omega]; rfl
          · rw [HSt.out]; exact HSy.out
          · rcases hg with q | q
            · exact .inl q.1
            · exact .inr (by omega)
          · exact ((ButS.of_below HB2.out).trans' (ButS.of_below (P := P) hb) (fun _ _ e => e)).setCell (p := ⟨m, 2, none⟩) (.inl HR.out.pM) _
end
end Go.Proofs.YtbjbbpbagnlkmaaDoor
namespace Go.Proofs.YtbjbbpbagnlkmaaDoor
open Go.RowKit Go.Maps Go.Sort Go.Shelf
set_option maxHeartbeats 4000000 in
set_option maxRecDepth 10000 in
theorem pValues_any (mb : Option Nat) (w : World) : Calls Tryd.prog 26 #[.map mb] w fun e w' => e = .returned (.func (.func 40) #[] #[.pointer (some ⟨w.heap.size, 0, none⟩)]) ∧ w' = w.alloc (.cells #[.map mb] 57) := by
  go_enter Tryd.func26, Tryd.ntmps26
  go_wp2_with fail
  go_ret
  exact ⟨rfl, rfl⟩
set_option maxHeartbeats 4000000 in
set_option maxRecDepth 10000 in
theorem pKeys_any (mb : Option Nat) (w : World) : Calls Tryd.prog 35 #[.map mb] w fun e w' => e = .returned (.func (.func 45) #[] #[.pointer (some ⟨w.heap.size, 0, none⟩)]) ∧ w' = w.alloc (.cells #[.map mb] 79) := by
  go_enter Tryd.func35, Tryd.ntmps35
  go_wp2_with fail
  go_ret
  exact ⟨rfl, rfl⟩
section
variable {w : World} {K : Nat → Prop} {a room cS bK low : Nat} {ps : List (Option Nat)} {t : Sh} {SA : Option Addr}
set_option maxHeartbeats 8000000 in
set_option maxRecDepth 10000 in
theorem pLive_any (h : AR w K a room ps t t SA cS bK low) (hft : FitT t) : Calls Tryd.prog 11 #[.pointer (some ⟨a, 0, none⟩)] w fun e w' => ∃ O co, e = .returned (.slice O (liveA t).length co) ∧ RowI w' (fun g => w.heap.size ≤ g) O (liveA t) ∧ Below w.heap.size w w' := by
  have c2 := h.c2
  have hba : Below w.heap.size w (w.alloc (.cells #[.map (some bK)] 57)) := (Below.refl _ _).alloc (Nat.le_refl _) _
  have hblk := (MapKept.heap_alloc w (.cells #[.map (some bK)] 57)).1
  obtain ⟨D, hD, hM⟩ := (h.below hba).map
  have hsz := (MapA.size hD hM).1
  have hlv : (liveA t).length ≤ 65536 := by
    have := liveF_len t 1
    have := h.len
    have := h.wide
    unfold liveA; omega
  have hcell : (w.alloc (.cells #[.map (some bK)] 57)).cell? ⟨w.heap.size, 0, none⟩ = some (.map (some bK)) := by rw [Lib.cell_of_heap hblk]; rfl
  have HS := Lib.hid (psorted_of 40 #[.pointer (some ⟨w.heap.size, 0, none⟩)] (enters_of Tryd.func40 (by kernel_rfl) rfl) (fun ss => ss.Perm (liveA t)) (fun ss hs => hs) (Maps.size D) (by omega)
    (pvals_gives 2 (by omega) w.heap.size bK _ D t hM hft (w.alloc (.cells #[.map (some bK)] 57)) (by simp) hcell hD))
  have HBa := Lib.hid hba
  clear h hD hM hblk hcell hba
  go_enter Tryd.func11, Tryd.ntmps11
  go_wp2_with fail
  refine (pValues_any (some bK) w).mono ?_; rintro e w1 ⟨rfl, rfl⟩
  go_wp2_with fail
  refine HS.out.mono ?_; rintro e w2 ⟨O, co, rfl, hr, hb⟩
  have HR := Lib.hid hr
  have HB := Lib.hid hb
  clear hr hb
  go_wp2_with fail
  go_ret
  exact ⟨O, co, rfl, HR.out.mono fun g hg _ => Nat.le_trans HBa.out.size hg, HBa.out.trans (HB.out.mono HBa.out.size)⟩
set_option maxHeartbeats 8000000 in
set_option maxRecDepth 10000 in
theorem pReach_any (h : AR w K a room ps t t SA cS bK low) (hft : FitT t) (hI : Inv room t) (roots : List Int) (Q : Nat → Prop) (A : Option Addr) (ca : Nat) (hl : RowI w Q A roots) (hll : roots.length ≤ 1000) (h64 : B64s roots) :
    Calls Tryd.prog 20 #[.pointer (some ⟨a, 0, none⟩), .slice A roots.length ca] w fun e w' => ∃ O co, e = .returned (.slice O (reachA t roots).length co) ∧ RowI w' (fun g => w.heap.size ≤ g) O (reachA t roots) ∧ Below w.heap.size w w' := by
  have HRe := Lib.hid (preached_any h hft hI roots Q A ca hl hll h64)
  have hlv : (liveA t).length ≤ 65536 := by
    have := liveF_len t 1
    have := h.len
    have := h.wide
    unfold liveA; omega
  have HI := Lib.hid hI
  clear h hft hl h64
  go_enter Tryd.func20, Tryd.ntmps20
  go_wp2_with fail
  refine HRe.out.mono ?_; rintro e w1 ⟨m, S, rfl, hm, hms, hS, hb1⟩
  have hba : Below w1.heap.size w1 (w1.alloc (.cells #[.map (some m)] 79)) := (Below.refl _ _).alloc (Nat.le_refl _) _
  have hblk := (MapKept.heap_alloc w1 (.cells #[.map (some m)] 79)).1
  have hcell : (w1.alloc (.cells #[.map (some m)] 79)).cell? ⟨w1.heap.size, 0, none⟩ = some (.map (some m)) := by rw [Lib.cell_of_heap hblk]; rfl
  have hP : S.Perm (liveA (leftA t roots)) := by
    refine (List.perm_ext_iff_of_nodup hms.nd ((liveF_up (leftA t roots) 1).1.imp fun {a b} hab => by omega)).2 fun x => ?_
    show _ ↔ x ∈ liveA (leftA t roots)
    rw [hS x, liveA_mem]
    unfold live
    rw [left_at]
    constructor
    · intro hr
      rw [if_pos hr]
      exact rch_live hI hr
    · intro hl
      by_cases hr : Rch t roots x
      · exact hr
      · rw [if_neg hr] at hl; cases hl
  have hSl : S.length ≤ 65536 := by
    have h1 := hP.length_eq
    have h2 := left_len t roots
    unfold reachA at h2
    omega
  obtain ⟨D, hD, hnd, hkD, _⟩ := hms.block (Below.heap_alloc w1 (.cells #[.map (some m)] 79) m hms.lt)
  have hpk := keys_wf hD hnd hkD
  have hsz : Maps.size D = S.length := by
    obtain ⟨es, hDe, _⟩ := hD.entries int9Keyed
    rw [hpk.length_eq, hDe]
    show es.length = (es.map _).length
    rw [List.length_map]
  have HS := Lib.hid (psorted_of 45 #[.pointer (some ⟨w1.heap.size, 0, none⟩)] (enters_of Tryd.func45 (by kernel_rfl) rfl) (t := leftA t roots) (fun ss => ss.Perm (intKeys D)) (fun ss hs => hs.trans (hpk.symm.trans hP)) (Maps.size D) (by omega)
    (AnyZI.keys_gives (ρ := Tryd.keysA_ren) { Tryd.keysA with } Fence.wide _ trivial rfl (by omega) w1.heap.size m _ D (w1.alloc (.cells #[.map (some m)] 79)) (by simp) hcell hD))
  have HBa := Lib.hid hba
  have HB1 := Lib.hid hb1
  clear hD hblk hcell hba hms hb1 hP hpk hkD hnd hS hsz HRe
  go_wp2_with fail
  refine (pKeys_any (some m) w1).mono ?_; rintro e w2 ⟨rfl, rfl⟩
  go_wp2_with fail
  refine HS.out.mono ?_; rintro e w2 ⟨O, co, rfl, hr, hb⟩
  have HR := Lib.hid hr
  have HB := Lib.hid hb
  clear hr hb
  go_wp2_with fail
  go_ret
  exact ⟨O, co, rfl, HR.out.mono fun g hg _ => Nat.le_trans (Nat.le_trans HB1.out.size HBa.out.size) hg, HB1.out.trans ((HBa.out.trans (HB.out.mono HBa.out.size)).mono HB1.out.size)⟩
end
end Go.Proofs.YtbjbbpbagnlkmaaDoor
