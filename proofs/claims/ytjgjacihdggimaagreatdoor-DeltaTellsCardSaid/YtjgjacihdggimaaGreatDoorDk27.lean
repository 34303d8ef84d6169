/- Texts joined: TqL, TqMf, TqO, DfU, MkA, DfW, DfY, DfX. -/
import Derived.Test.YtjgjacihdggimaaGreatDoorDk26
import Derived.Test.YtjgjacihdggimaaGreatDoorDk04
import Derived.Test.YtjgjacihdggimaaGreatDoorDk22
import Derived.Laws.Rows
import Derived.Test.YtjgjacihdggimaaGreatDoorDk03
import Derived.Test.YtjgjacihdggimaaGreatDoorDk24
set_option linter.all false
namespace Go.Proofs.YtjgjacihdggimaaGreatDoor
open Go.RowKit Go.Shelf
set_option maxHeartbeats 8000000 in
set_option maxRecDepth 10000 in
theorem ptput_any {w : World} {B a room T : Nat} {s : Sh} {K : Nat → Prop} {f : Txs} (hA : On9 w B a room s K) (hT : TX w T f) (hok : OkX f) :
    Calls Tryz.prog 27 #[.pointer (some ⟨T, 0, none⟩), .pointer (some ⟨a, 0, none⟩)] w fun e w' => TPutQ w B a room s K (putT room s (entX f 1024)) e w' := by
  have hokL : OkL (entX f 1024) := entX_ok hok 1024 (Nat.le_refl _)
  have hlE := entX_len2 f
  have hlN := nodesL_len hokL.keys
  have HEn := Lib.hid (pentries_any f w T hT)
  have HNo := Lib.hid (fun w' {A : Option Addr} {ca : Nat} {Q : Nat → Prop} (hca : (entX f 1024).length ≤ ca) (hl : RowE w' Q A (entX f 1024)) => pnodes_any (entX f 1024) hokL.keys (by omega) A ca hca w' Q hl)
  have HFit := Lib.hid (nodesL_fit hokL (by omega))
  have HA := Lib.hid hA
  have hPT : putT room s (entX f 1024) = ((putA room s (nodesL (entX f 1024))).1, (putA room s (nodesL (entX f 1024))).2.1.getLastD 0, if (putA room s (nodesL (entX f 1024))).2.1 = [] then (putA room s (nodesL (entX f 1024))).2.2 else 0) := rfl
  have hzN : (putA room s (nodesL (entX f 1024))).2.1.length ≤ 8000 := by
    by_cases e : (putA room s (nodesL (entX f 1024))).2.2 = 0
    · rw [(put_ok e).1]; omega
    · rw [(put_no e).1]; exact Nat.zero_le _
  rw [hPT]
  have hlN2 : (nodesL (entX f 1024)).length ≤ 100000 := by omega
  have HRet := Lib.hid (fun (wx : World) (Kx : Nat → Prop) (hx : On9 wx B a room s Kx) A ca hrow => o9Put hx (nodesL (entX f 1024)) A ca hrow hlN2 HFit.out)
  clear hA hT hok hokL hPT
  generalize nodesL (entX f 1024) = NL at *
  generalize entX f 1024 = EL at *
  generalize hP : putA room s NL = PA at *
  obtain ⟨s', out, c⟩ := PA
  clear hP
  dsimp only at hzN HRet ⊢
  obtain ⟨PT, hPT2⟩ : ∃ r : Sh × Int × Nat, (s', out.getLastD 0, if out = [] then c else 0) = r := ⟨_, rfl⟩
  rw [hPT2]
  have HPT := Lib.hid hPT2
  clear hPT2
  go_enter Tryz.func27, Tryz.ntmps27
  go_wp2_with fail
  refine HEn.out.mono ?_; rintro e w1 ⟨O1, c1, rfl, hc1, hr1, hb1⟩
  have HR1 := Lib.hid hr1
  have HB1 := Lib.hid hb1
  clear hr1 hb1
  go_wp2_with fail
  refine (HNo.out _ hc1 HR1.out).mono ?_; rintro e w2 ⟨O2, c2, rfl, hc2, hr2, hb2⟩
  have hb12 := HB1.out.trans (hb2.mono HB1.out.size)
  have hA2 := HA.out.below hb12
  have hr2' := hr2.mono (Q := fun g => K g ∨ (w.heap.size ≤ g ∧ g < w2.heap.size)) fun g hg hl => .inr ⟨Nat.le_trans HB1.out.size hg, hl⟩
  have HC := Lib.hid (HRet.out _ _ hA2 O2 c2 hr2')
  have HB12 := Lib.hid hb12
  clear hr2 hb2 hb12 hA2 hr2' HR1 HRet
  go_wp2_with fail
  refine HC.out.mono ?_; rintro e w3 ⟨O3, c3, K3, rfl, hr3, hon, hkk, hkept, hbel⟩
  have HLf : Hid (Lf9 w B a room s' K w3 K3) := Lib.hid ⟨hon, fun g hg => hkk g (.inl hg), (Kept.of_below HB12.out).trans ⟨hkept.size, fun g hg hl => hkept.block g (.inl hg) hl⟩, (HB12.out.mono HA.out.base).trans hbel⟩
  clear hon hkk hkept hbel HC HB12
  by_cases ho : out = []
  · have hl0 : out.length = 0 := by rw [ho]; rfl
    have HV : Hid (out.getLastD 0 = 0 ∧ (if out = [] then c else 0) = c) := Lib.hid ⟨by rw [ho]; rfl, if_pos ho⟩
    clear hr3 ho
    generalize out.length = N at *
    subst hl0
    go_wp2_with fail
    go_ret2
    refine ⟨K3, ?_, by rw [← HPT.out]; exact HLf.out⟩
    rw [← HPT.out]
    show _ = Ending.returned (.tuple #[.int .i64 (out.getLastD 0), .int .i64 ((if out = [] then c else 0 : Nat) : Int)])
    rw [HV.out.1, HV.out.2]; rfl
  · have hlp : 0 < out.length := List.length_pos_iff.2 ho
    obtain ⟨M, hM⟩ : ∃ M, out.length = M + 1 := ⟨out.length - 1, by omega⟩
    obtain ⟨z, hz⟩ : ∃ z, out[M]? = some z := ⟨_, List.getElem?_eq_getElem (by omega)⟩
    have HV : Hid (out.getLastD 0 = z ∧ (if out = [] then c else 0) = 0) := Lib.hid ⟨by
      rw [List.getLastD_eq_getLast?, List.getLast?_eq_getElem?, hM, Nat.add_sub_cancel, hz]; rfl, if_neg ho⟩
    obtain ⟨gO, oO, rfl, _, hgO, hcO⟩ := hr3.at (i := M) (by omega)
    have q0 := hcO M z hz
    have hi1 : ((M + 1 : Nat) : Int) - 1 = (M : Int) := by omega
    have hMI : (M : Int) < ((M + 1 : Nat) : Int) := by omega
    have hM0 : (0 : Int) ≤ (M : Int) := by omega
    rw [hM]
    rw [hM] at hzN
    have hne : (((M + 1 : Nat) : Int) == 0) = false := by rw [beq_eq_false_iff_ne]; omega
    generalize hN1 : M + 1 = N1 at *
    clear hr3 ho hcO hz hM hlp
    go_wp2_with fail
    go_ret2
    refine ⟨K3, ?_, by rw [← HPT.out]; exact HLf.out⟩
    rw [← HPT.out]
    show _ = Ending.returned (.tuple #[.int .i64 (out.getLastD 0), .int .i64 ((if out = [] then c else 0 : Nat) : Int)])
    rw [HV.out.1, HV.out.2]; rfl
end Go.Proofs.YtjgjacihdggimaaGreatDoor
namespace Go.Proofs.YtjgjacihdggimaaGreatDoor
open Go.RowKit Go.Shelf
theorem lf9_same {w w1 : World} {B a room : Nat} {s : Sh} {K : Nat → Prop} (h : On9 w B a room s K) (hb : Below w.heap.size w w1) : Lf9 w B a room s K w1 (fun g => K g ∨ (w.heap.size ≤ g ∧ g < w1.heap.size)) :=
  ⟨h.below hb, fun g hg => .inl hg, Kept.of_below hb, hb.mono h.base⟩
theorem lf9_trans {w w1 w2 : World} {B a room : Nat} {s s' : Sh} {K K2 : Nat → Prop} (h : On9 w B a room s K) (hb : Below w.heap.size w w1) (hl : Lf9 w1 B a room s' (fun g => K g ∨ (w.heap.size ≤ g ∧ g < w1.heap.size)) w2 K2) : Lf9 w B a room s' K w2 K2 :=
  ⟨hl.1, fun g hg => hl.2.1 g (.inl hg), (Kept.of_below hb).trans ⟨hl.2.2.1.size, fun g hg hlt => hl.2.2.1.block g (.inl hg) hlt⟩, (hb.mono h.base).trans hl.2.2.2⟩
end Go.Proofs.YtjgjacihdggimaaGreatDoor
namespace Go.Proofs.YtjgjacihdggimaaGreatDoor
open Go.RowKit Go.Shelf
set_option maxHeartbeats 16000000 in
set_option maxRecDepth 10000 in
theorem ptbuild_any {w : World} {B a room : Nat} {s : Sh} {K : Nat → Prop} (hA : On9 w B a room s K) (l : List En) (A : Option Addr) (ca : Nat) {Q : Nat → Prop} (hl : RowE w Q A l) (hll : l.length ≤ 1000000) (hlt : ∀ x ∈ l, x.text.length ≤ maxLen) :
    Calls Tryz.prog 8 #[.pointer (some ⟨a, 0, none⟩), .slice A l.length ca] w fun e w' => TPutQ w B a room s K (pBldR room s l) e w' := by
  have HCo := Lib.hid (pcontains0_any (F := 26) (p := fun x => !rightE x) (ca := ca) (enters_of Tryz.func26 (by kernel_rfl) rfl) hl hll (fun x hx w' _ => pwrong_any x w' (hlt x hx)))
  have HA := Lib.hid hA
  have HL := Lib.hid hl
  have HP : Hid (pBldR room s l = if (l.any fun x => !rightE x) = true then (s, 0, 1) else if dupF (fun _ => []) l = true then (s, 0, 5) else putT room s (entX (bldF l) 1024)) := Lib.hid rfl
  clear hA hl hlt
  generalize pBldR room s l = PR at *
  cases hany : (l.any fun x => !rightE x) with
  | true =>
    rw [hany] at HCo HP
    have HP2 : Hid (PR = (s, 0, 1)) := Lib.hid (HP.out.trans (if_pos rfl))
    clear hany
    go_enter Tryz.func8, Tryz.ntmps8
    go_wp2_with fail
    refine HCo.out.mono ?_; rintro e w1 ⟨rfl, hb1⟩
    have HB1 := Lib.hid hb1
    clear hb1
    go_wp2_with fail
    go_ret2
    exact ⟨_, by rw [HP2.out]; rfl, by rw [HP2.out]; exact lf9_same HA.out HB1.out⟩
  | false =>
    rw [hany] at HCo HP
    have HP2 : Hid (PR = if dupF (fun _ => []) l = true then (s, 0, 5) else putT room s (entX (bldF l) 1024)) := Lib.hid (HP.out.trans (if_neg (by decide)))
    have HAll : Hid (∀ x ∈ l, rightE x = true) := Lib.hid fun x hx => by
      have := List.any_eq_false.1 hany x hx
      simpa using this
    clear hany HP
    go_enter Tryz.func8, Tryz.ntmps8
    go_wp2_with fail
    refine HCo.out.mono ?_; rintro e w1 ⟨rfl, hb1⟩
    have hbt : Below w1.heap.size w1 (w1.alloc (.cells Tryz.zeroCells72 72)) := (Below.refl _ _).alloc (Nat.le_refl _) _
    have HBt := Lib.hid (hb1.trans (hbt.mono hb1.size))
    have hT0 : TX (w1.alloc (.cells Tryz.zeroCells72 72)) w1.heap.size (fun _ => []) := by
      have := heap_alloc_new w1 (.cells Tryz.zeroCells72 72)
      rw [texts_zero] at this
      exact this
    have HT0 := Lib.hid hT0
    have hX : w.heap.size ≤ w1.heap.size := hb1.size
    clear hb1 hbt hT0 HCo
    go_wp2_with fail
    go_loopw [17] (fun vi wr => ∃ i : Nat, i ≤ l.length ∧ vi = .int .i64 (i : Int) ∧ Hid (TX wr w1.heap.size (bldF (l.take i))) ∧ Hid (dupF (fun _ => []) l = dupF (bldF (l.take i)) (l.drop i)) ∧ Hid (Below w.heap.size w wr)) (fun vi _ => l.length - (RowKit.intOf vi).toNat)
    case atStart => exact ⟨0, Nat.zero_le _, rfl, HT0, Lib.hid (by rw [List.take_zero, List.drop_zero]; rfl), HBt⟩
    case round =>
      obtain ⟨i, hi, rfl, HT, HD, HB⟩ := hrel
      by_cases hlt : i < l.length
      · obtain ⟨x, hx⟩ : ∃ x, l[i]? = some x := ⟨_, List.getElem?_eq_getElem hlt⟩
        obtain ⟨g, o, rfl, _, hgl, hat⟩ := HL.out.at hlt
        obtain ⟨q0, q1⟩ := hat.two hx
        have k0 := keep_cell HB.out q0
        have k1 := keep_cell HB.out q1
        have hri := right_iffE.1 (HAll.out x (List.mem_of_getElem? hx))
        have hdr : l.drop i = x :: l.drop (i + 1) := by
          rw [List.drop_eq_getElem_cons hlt, (List.getElem?_eq_some_iff.1 hx).2]
        have hbs : bldF (l.take (i + 1)) = setX (bldF (l.take i)) x.key.toNat x.text := by
          unfold bldF
          rw [List.take_add_one, hx, List.foldl_append]; rfl
        have HBs := Lib.hid hbs
        have hdd : dupF (fun _ => []) l = if bldF (l.take i) x.key.toNat = [] then dupF (setX (bldF (l.take i)) x.key.toNat x.text) (l.drop (i + 1)) else true := by rw [HD.out, hdr, dupF]
        have HDd := Lib.hid hdd
        have hkI : (i : Int) < (l.length : Int) := by omega
        obtain ⟨kx, tx⟩ := x
        have hrb : 0 ≤ kx := hri.1
        have hrc : kx ≤ 1023 := hri.2.1
        obtain ⟨j, rfl⟩ : ∃ j : Nat, kx = (j : Int) := ⟨kx.toNat, by omega⟩
        have hj : j < 1024 := by omega
        have hba : Below wr.heap.size wr (wr.alloc (.cells #[.int .i64 (j : Int), .string ⟨tx.toArray⟩] 60)) := (Below.refl _ _).alloc (Nat.le_refl _) _
        have hT1 := HT.out.below hba
        have t0 := hT1.cell hj
        have t1 := hT1.frozen j
        have zT := hT1.lt
        have HB1 := Lib.hid (HB.out.trans (hba.mono HB.out.size))
        have hT2 := hT1.set hj tx
        have HT2 : Hid (TX ((wr.alloc (.cells #[.int .i64 (j : Int), .string ⟨tx.toArray⟩] 60)).setCell ⟨w1.heap.size, j, none⟩ (.string ⟨tx.toArray⟩)) w1.heap.size (bldF (l.take (i + 1)))) := Lib.hid (by rw [HBs.out]; exact hT2)
        have HB2 := Lib.hid (HB1.out.setCell (p := ⟨w1.heap.size, j, none⟩) hX (.string ⟨tx.toArray⟩))
        have hDn : bldF (l.take i) j = [] → dupF (fun _ => []) l = dupF (bldF (l.take (i + 1))) (l.drop (i + 1)) := fun e => by
          rw [HBs.out]
          exact HDd.out.trans (if_pos e)
        have hDy : ¬ bldF (l.take i) j = [] → dupF (fun _ => []) l = true := fun e => HDd.out.trans (if_neg e)
        have HDn := Lib.hid hDn
        have HDy := Lib.hid hDy
        clear hat q0 q1 hx hri hdr hbs hdd hba hT1 hT2 hDn hDy hrb hrc HT HD
        by_cases hV : bldF (l.take i) j = []
        · have HD2 := Lib.hid (HDn.out hV)
          rw [hV] at t0
          clear hV HDn HDy
          go_wp2_with fail
          go_roundw
          case rel => exact ⟨i + 1, by omega, by go_num, HT2, HD2, HB2⟩
          case measure => simp [RowKit.intOf]; omega
        · have HP3 := Lib.hid (HP2.out.trans (if_pos (HDy.out hV)))
          have hVe : (bldF (l.take i) j).isEmpty = false := by cases e : bldF (l.take i) j with | nil => exact absurd e hV | cons _ _ => rfl
          clear hV HDn HDy HDd HBs HT2 HB2
          generalize bldF (l.take i) j = V at *
          go_wp2_with fail
          go_ret2
          exact ⟨_, by rw [HP3.out]; rfl, by rw [HP3.out]; exact lf9_same HA.out HB1.out⟩
      · have hii : i = l.length := by omega
        subst hii
        have hT := HT.out
        have hD := HD.out
        rw [List.take_length] at hT hD
        rw [List.drop_length, dupF] at hD
        have HP3 : Hid (PR = putT room s (entX (bldF l) 1024)) := Lib.hid (by rw [HP2.out, hD]; exact if_neg (by decide))
        have HC := Lib.hid (ptput_any (HA.out.below HB.out) hT (bldF_ok HAll.out))
        clear hT hD
        go_wp2_with fail
        refine HC.out.mono ?_; rintro e w5 ⟨K5, rfl, hlf⟩
        have HLf := Lib.hid (lf9_trans HA.out HB.out hlf)
        rw [← HP3.out] at HLf
        clear hlf HC
        go_wp2_with fail
        go_ret2
        refine ⟨K5, ?_, HLf.out⟩
        rw [HP3.out]; rfl
end Go.Proofs.YtjgjacihdggimaaGreatDoor
namespace Go.Proofs.YtjgjacihdggimaaGreatDoor
open Go.RowKit Go.Shelf
set_option maxHeartbeats 8000000 in
set_option maxRecDepth 10000 in
theorem pdbuild_any {w : World} {B a room T : Nat} {s : Sh} {K : Nat → Prop} {f : Txs} (hA : On9 w B a room s K) (hT : TD w T f) (hok : OkX f) :
    Calls Tryz.prog 41 #[.pointer (some ⟨T, 0, none⟩), .pointer (some ⟨a, 0, none⟩)] w fun e w' => TPutQ w B a room s K (putT room s (entX f 1024)) e w' := by
  obtain ⟨i0, hi0, hz0, hz1, hz2⟩ := info_parts pent_info
  have hokL : OkL (entX f 1024) := entX_ok hok 1024 (Nat.le_refl _)
  have HB := Lib.hid hT
  have hBl := hT.lt
  have HBu := Lib.hid (fun (w1 : World) (hb : Below w.heap.size w w1) (A : Option Addr) (ca : Nat) (Q : Nat → Prop) (hl : RowE w1 Q A (entX f 1024)) => ptbuild_any (hA.below hb) (entX f 1024) A ca hl (Nat.le_trans (entX_len2 f) (by decide)) (fun x hx => by have := (right_iffE.1 (hokL.1 x hx)).2.2.2; unfold maxLen; omega))
  have HTr := Lib.hid (fun (w1 : World) (hb : Below w.heap.size w w1) (r : Sh × Int × Nat) (e : Ending) (w2 : World) (q : TPutQ w1 B a room s (fun g => K g ∨ (w.heap.size ≤ g ∧ g < w1.heap.size)) r e w2) => (show TPutQ w B a room s K r e w2 from by
    obtain ⟨K2, he, hl⟩ := q
    exact ⟨K2, he, lf9_trans hA hb hl⟩))
  have HBE := Lib.hid (bld_ent (room := room) (s := s) hok)
  rw [HBE.out] at HBu
  clear hT hA hokL HBE hok
  generalize putT room s (entX f 1024) = PT at *
  go_enter Tryz.func41, Tryz.ntmps41
  go_wp2_with fail
  go_loopw [6, 11] (fun v vi wr => ∃ (i : Nat), i ≤ 1024 ∧ vi = .int .i64 (i : Int) ∧ Hid (OwnR 60 2 enW w.heap.size wr v (entX f i)) ∧ Below w.heap.size w wr) (fun _ vi _ => 1024 - (RowKit.intOf vi).toNat)
  case atStart => exact ⟨0, Nat.zero_le _, rfl, Lib.hid (World.ownsRow_nil _ _ _ _), Below.refl _ _⟩
  case round =>
    obtain ⟨i, hi, rfl, HO, hb⟩ := hrel
    by_cases hlt : i < 1024
    · have q0 := (HB.out.below hb).cell hlt
      have hI : (i : Int) < 1024 := by omega
      have hJ : (0 : Int) ≤ (i : Int) := by omega
      have hbs := hb.size
      have hlen : (entX f i).length ≤ i := entX_len f i
      have HE : Hid (entX f (i + 1) = entX f i ++ if f i = [] then [] else [⟨(i : Int), f i⟩]) := Lib.hid (by rw [entX])
      cases he : (f i).isEmpty with
      | true =>
        have hE := HE.out
        rw [if_pos (List.isEmpty_iff.1 he), List.append_nil] at hE
        rw [← hE] at HO
        go_wp2_with fail
        go_region
        go_wp2_with fail
        go_roundw
        case rel => exact ⟨i + 1, by omega, by go_num, HO, by first | exact hb | exact hb.drew | exact below_drewN hb _⟩
        case measure => simp [RowKit.intOf]; omega
      | false =>
        have hne : f i ≠ [] := fun h => by rw [h] at he; cases he
        have hE := HE.out
        rw [if_neg hne] at hE
        have HE2 := Lib.hid hE
        clear hE
        generalize f i = T at *
        go_wp2_with fail
        go_region
        go_wp2_with (at_builtin; refine of_stop ?_)
        refine stop_of ?_
        have b0 : Below w.heap.size wr (wr.alloc (.cells (enW ⟨(i : Int), T⟩).toArray 60)) := (Below.refl _ _).alloc hbs _
        refine wpList_append_rows (f := enW) (n := 2) (E := 60) (nb := 24) (X := entX f i) (base := w.heap.size) rfl _ _ rfl rfl (OwnR.below HO.out (by first | exact (Below.refl _ _).alloc (Nat.le_refl _) _ | exact ((Below.refl _ _).alloc (Nat.le_refl _) _).drew)) (L2 := [(⟨(i : Int), T⟩ : En)]) rfl (one_row wr (⟨(i : Int), T⟩ : En)) (by simp) (N := (entX f (i + 1)).length) (by rw [HE2.out, List.length_append]) (Z := entX f (i + 1)) HE2.out.symm Tryz.underlying22 hi0 hz0 hz1 hz2 rfl (by decide) (by decide) (fun _ => rfl) enW_one (by rw [HE2.out, List.length_append]; simp; omega) (by simp; omega) ?_
        intro g4 k4 w4 ho4 hg4 hat4 hl4
        have hb4 : Below w.heap.size wr w4 := Below.grown (by first | exact b0 | exact b0.drew) hg4 (by simp; omega) (fun k hk => (World.ownsRow.lt HO.out k hk).1)
        have HO4 := Lib.hid ho4
        have hb5 := hb.trans hb4
        clear ho4 hg4 hat4 hl4 hb4 b0
        go_wp2_with fail
        go_roundw
        case rel => exact ⟨i + 1, by omega, by go_num, HO4, hb5⟩
        case measure => simp [RowKit.intOf]; omega
    · obtain rfl : i = 1024 := by omega
      obtain ⟨O, co, hv, hc, hr⟩ := own_rowE HO.out
      subst hv
      have HC := Lib.hid (HBu.out _ hb O co _ hr)
      have HTq := Lib.hid (fun r e w2 => HTr.out _ hb r e w2)
      clear hr hc HBu HO HTr
      generalize entX f 1024 = EL at *
      go_wp2_with fail
      refine HC.out.mono ?_; rintro e w5 hq
      have hq2 := HTq.out _ _ _ hq
      obtain ⟨K5, rfl, hlf⟩ := hq2
      have HLf := Lib.hid hlf
      clear hlf hq HTq HC
      go_wp2_with fail
      go_ret2
      exact ⟨K5, rfl, HLf.out⟩
end Go.Proofs.YtjgjacihdggimaaGreatDoor
namespace Go.Proofs.YtjgjacihdggimaaGreatDoor
open Go.RowKit
theorem marked_zero : Tryz.zeroCells121 = Array.replicate 1024 (.bool false) := by kernel_rfl
def MK (V : World) (B : Nat) (f : Nat → Bool) : Prop := ∃ c : Array Value, V.heap[B]? = some (.cells c 121 (0, 0)) ∧ c.size = 1024 ∧ ∀ j, j < 1024 → c[j]? = some (.bool (f j))
theorem MK.world {V V' : World} {B : Nat} {f : Nat → Bool} (h : MK V B f) (hb : V'.heap[B]? = V.heap[B]?) : MK V' B f := by
  obtain ⟨c, h1, h2, h3⟩ := h
  exact ⟨c, hb.trans h1, h2, h3⟩
theorem MK.lt {V : World} {B : Nat} {f : Nat → Bool} (h : MK V B f) : B < V.heap.size := by
  obtain ⟨c, h1, _⟩ := h
  exact (Array.getElem?_eq_some_iff.1 h1).1
theorem MK.cell {V : World} {B : Nat} {f : Nat → Bool} (h : MK V B f) {j : Nat} (hj : j < 1024) : V.cell? ⟨B, j, none⟩ = some (.bool (f j)) ∧ V.frozen? ⟨B, j, none⟩ = false := by
  obtain ⟨c, h1, h2, h3⟩ := h
  refine ⟨?_, by simp [World.frozen?, h1]⟩
  rw [Lib.cell_of_heap h1 j]
  exact h3 j hj
theorem MK.set {V : World} {B : Nat} {f g : Nat → Bool} (h : MK V B f) {j : Nat} (hg : ∀ i, i < 1024 → g i = (f i || decide (i = j))) : MK (V.setCell ⟨B, j, none⟩ (.bool true)) B g := by
  obtain ⟨c, h1, h2, h3⟩ := h
  refine ⟨c.setIfInBounds j (.bool true), ?_, by rw [Array.size_setIfInBounds, h2], fun i hi => ?_⟩
  · have hlt := (Array.getElem?_eq_some_iff.1 h1).1
    have he := (Array.getElem?_eq_some_iff.1 h1).2
    show (V.heap.modify B _)[B]? = _
    rw [Array.getElem?_eq_getElem (by rw [Array.size_modify]; exact hlt), Array.getElem_modify_self, he]
    rfl
  · rw [Array.getElem?_setIfInBounds, hg i hi]
    by_cases e : j = i
    · subst e
      rw [if_pos rfl, if_pos (by rw [h2]; exact hi)]
      simp
    · rw [if_neg e, h3 i hi, decide_eq_false (fun h => e h.symm), Bool.or_false]
theorem MK.congr {V : World} {B : Nat} {f g : Nat → Bool} (h : MK V B f) (hg : ∀ j, j < 1024 → f j = g j) : MK V B g := by
  obtain ⟨c, h1, h2, h3⟩ := h
  exact ⟨c, h1, h2, fun j hj => by rw [h3 j hj, hg j hj]⟩
end Go.Proofs.YtjgjacihdggimaaGreatDoor
namespace Go.Proofs.YtjgjacihdggimaaGreatDoor
open Go.RowKit
def mtF (cs : List Ch) (i : Nat) (j : Nat) : Bool := (cs.take i).any fun c => decide (c.key = (j : Int))
theorem mtF_zero (cs : List Ch) (j : Nat) : mtF cs 0 j = false := by unfold mtF; rw [List.take_zero]; rfl
theorem mtF_next {cs : List Ch} {i : Nat} {c : Ch} (hc : cs[i]? = some c) (k : Nat) (hk : c.key = (k : Int)) (j : Nat) : mtF cs (i + 1) j = (mtF cs i j || decide (j = k)) := by
  unfold mtF
  rw [List.take_add_one, hc, List.any_append]
  congr 1
  show (decide (c.key = (j : Int)) || false) = _
  rw [Bool.or_false, hk]
  exact decide_eq_decide.2 ⟨fun h => by omega, fun h => by omega⟩
theorem mtF_yes {cs : List Ch} {i : Nat} {c : Ch} (hc : cs[i]? = some c) (k : Nat) (hk : c.key = (k : Int)) (h : mtF cs i k = true) : ¬ DisC cs := fun hd => by
  obtain ⟨d, hd1, hd2⟩ := List.any_eq_true.1 h
  obtain ⟨m, hm⟩ := List.mem_iff_getElem?.1 hd1
  rw [List.getElem?_take] at hm
  split at hm
  · rename_i hmi
    obtain ⟨h1, e1⟩ := List.getElem?_eq_some_iff.1 hm
    obtain ⟨h2, e2⟩ := List.getElem?_eq_some_iff.1 hc
    have := List.pairwise_iff_getElem.1 hd m i h1 h2 hmi
    rw [e1, e2, hk] at this
    exact this (of_decide_eq_true hd2)
  · cases hm
theorem mtF_no {cs : List Ch} {i : Nat} {c : Ch} (hc : cs[i]? = some c) (k : Nat) (hk : c.key = (k : Int)) (h : mtF cs i k = false) (hd : DisC (cs.take i)) : DisC (cs.take (i + 1)) := by
  rw [List.take_add_one, hc]
  refine List.pairwise_append.2 ⟨hd, List.pairwise_singleton _ _, fun a ha b hb => ?_⟩
  obtain rfl : b = c := by simpa using hb
  have h1 := List.any_eq_false.1 h a ha
  rw [hk]
  simpa using h1
def TwQ (w : World) (cs : List Ch) (e : Ending) (w' : World) : Prop := ∃ b, e = .returned (.bool b) ∧ (b = true ↔ ¬ DisC cs) ∧ Below w.heap.size w w'
set_option maxHeartbeats 8000000 in
set_option maxRecDepth 10000 in
theorem pdtwice_any (cs : List Ch) (hk : ∀ c ∈ cs, 0 ≤ c.key ∧ c.key ≤ 1023) (A : Option Addr) (ca : Nat) (w : World) {Q : Nat → Prop} (hl : RowC w Q A cs) (hll : cs.length ≤ 1000000) :
    Calls Tryz.prog 40 #[.slice A cs.length ca] w fun e w' => TwQ w cs e w' := by
  have HL := Lib.hid hl
  have HK := Lib.hid hk
  obtain ⟨W2, hW2⟩ : ∃ W2, (w.alloc (.cells Tryz.zeroCells121 121)) = W2 := ⟨_, rfl⟩
  have hb2 : Below w.heap.size w W2 := by rw [← hW2]; exact (Below.refl _ _).alloc (Nat.le_refl _) _
  have hM2 : MK W2 w.heap.size (mtF cs 0) := by
    rw [← hW2]
    refine ⟨_, heap_alloc_new w _, by rw [marked_zero]; exact Array.size_replicate .., fun j hj => ?_⟩
    rw [marked_zero, Array.getElem?_replicate, if_pos hj, mtF_zero]
  have HB2 := Lib.hid hb2
  have HM2 := Lib.hid hM2
  clear hl hk hb2 hM2
  go_enter Tryz.func40, Tryz.ntmps40
  go_wp2_with fail
  go_loopw [8] (fun vi wr => ∃ i : Nat, i ≤ cs.length ∧ vi = .int .i64 (i : Int) ∧ Hid (MK wr w.heap.size (mtF cs i)) ∧ Hid (DisC (cs.take i)) ∧ Hid (Below w.heap.size w wr)) (fun vi _ => cs.length - (RowKit.intOf vi).toNat)
  case atStart => exact ⟨0, Nat.zero_le _, rfl, HM2, Lib.hid (by rw [List.take_zero]; exact List.Pairwise.nil), HB2⟩
  case round =>
    clear HM2 HB2
    obtain ⟨i, hi, rfl, HM, HD, HB⟩ := hrel
    by_cases hlt : i < cs.length
    · obtain ⟨c, hc⟩ : ∃ c, cs[i]? = some c := ⟨_, List.getElem?_eq_getElem hlt⟩
      obtain ⟨g, o, rfl, _, hgl, hat⟩ := HL.out.at hlt
      obtain ⟨q0, q1, q2⟩ := hat.three hc
      have k0 := keep_cell HB.out q0
      have k1 := keep_cell HB.out q1
      have k2 := keep_cell HB.out q2
      have hkc := HK.out c (List.mem_of_getElem? hc)
      obtain ⟨j, hj⟩ : ∃ j : Nat, c.key = (j : Int) := ⟨c.key.toNat, by omega⟩
      have hj1 : j < 1024 := by omega
      have HY := Lib.hid (mtF_yes hc j hj)
      have HN := Lib.hid (fun h => mtF_no hc j hj h HD.out)
      have HX := Lib.hid (mtF_next hc j hj)
      have hI : (i : Int) < (cs.length : Int) := by omega
      obtain ⟨kc, fc, tc⟩ := c
      obtain rfl : kc = (j : Int) := hj
      have hba : Below wr.heap.size wr (wr.alloc (.cells #[.int .i64 (j : Int), .string ⟨fc.toArray⟩, .string ⟨tc.toArray⟩] 57)) := (Below.refl _ _).alloc (Nat.le_refl _) _
      have zM := HM.out.lt
      have hM1 : MK (wr.alloc (.cells #[.int .i64 (j : Int), .string ⟨fc.toArray⟩, .string ⟨tc.toArray⟩] 57)) w.heap.size (mtF cs i) := HM.out.world (hba.block _ zM)
      obtain ⟨m0, m1⟩ := hM1.cell hj1
      have HMn : Hid (MK ((wr.setCell ⟨w.heap.size, j, none⟩ (.bool true)).alloc (.cells #[.int .i64 (j : Int), .string ⟨fc.toArray⟩, .string ⟨tc.toArray⟩] 57)) w.heap.size (mtF cs (i + 1))) := Lib.hid ((HM.out.set (g := mtF cs (i + 1)) (j := j) (fun n hn => HX.out n)).world (Below.heap_alloc _ _ _ (by simpa using zM)))
      have HBn : Hid (Below w.heap.size w (wr.alloc (.cells #[.int .i64 (j : Int), .string ⟨fc.toArray⟩, .string ⟨tc.toArray⟩] 57))) := Lib.hid (HB.out.trans (hba.mono HB.out.size))
      have HBs : Hid (Below w.heap.size w ((wr.setCell ⟨w.heap.size, j, none⟩ (.bool true)).alloc (.cells #[.int .i64 (j : Int), .string ⟨fc.toArray⟩, .string ⟨tc.toArray⟩] 57))) := Lib.hid ((HB.out.setCell (p := ⟨w.heap.size, j, none⟩) (Nat.le_refl _) (.bool true)).alloc (by simpa using HB.out.size) _)
      clear hat q0 q1 q2 hc hkc hba hM1 HM HX
      cases hm : mtF cs i j with
      | true =>
        rw [hm] at m0
        have HR := Lib.hid (HY.out hm)
        clear HN HY hm HMn HBs
        go_wp2_with fail
        go_ret
        exact ⟨true, rfl, ⟨fun _ => HR.out, fun _ => rfl⟩, HBn.out⟩
      | false =>
        rw [hm] at m0
        have HD2 := Lib.hid (HN.out hm)
        clear HN HY hm HBn
        go_wp2_with fail
        go_roundw
        case rel => exact ⟨i + 1, by omega, by go_num, HMn, HD2, HBs⟩
        case measure => simp [RowKit.intOf]; omega
    · have hii : i = cs.length := by omega
      subst hii
      have hd := HD.out
      rw [List.take_length] at hd
      have HD2 := Lib.hid hd
      clear hd HD
      go_wp2_with fail
      go_ret
      exact ⟨false, rfl, ⟨fun e => (by cases e), fun e => absurd HD2.out e⟩, HB.out⟩
end Go.Proofs.YtjgjacihdggimaaGreatDoor
namespace Go.Proofs.YtjgjacihdggimaaGreatDoor
open Go.RowKit Go.Shelf
theorem run_nextP {l H : List En} {cs : List Ch} {i : Nat} {c : Ch} (hc : cs[i]? = some c) (h : runC l cs = runC H (cs.drop i)) : runC l cs = if txE H c.key = c.fr then runC (stepC H c) (cs.drop (i + 1)) else none := by
  obtain ⟨h1, rfl⟩ := List.getElem?_eq_some_iff.1 hc
  rw [h, List.drop_eq_getElem_cons h1, runC]
set_option maxHeartbeats 16000000 in
set_option maxRecDepth 10000 in
theorem pdapply_any {w : World} {B a room : Nat} {s : Sh} {K : Nat → Prop} (hA : On9 w B a room s K) (h : Int) (hh : -9223372036854775808 ≤ h ∧ h ≤ 9223372036854775807) (cs : List Ch) (C : Option Addr) (cc : Nat) {Q : Nat → Prop} (hcs : RowC w Q C cs) (hcl : cs.length ≤ 1000000) (hct : ∀ c ∈ cs, c.fr.length ≤ maxLen ∧ c.tt.length ≤ maxLen) :
    Calls Tryz.prog 17 #[.pointer (some ⟨a, 0, none⟩), .int .i64 h, .slice C cs.length cc] w fun e w' => TPutQ w B a room s K (pAplR room s h cs) e w' := by
  have HRd := Lib.hid (pdread_any hA h hh)
  have HC := Lib.hid (fun (w1 : World) (hb : Below w.heap.size w w1) => hcs.below hb)
  have HCo := Lib.hid (fun (w1 : World) (hb : Below w.heap.size w w1) => pdcontains_any (F := 39) (p := fun c => !okC c) (ca := cc) (enters_of Tryz.func39 (by kernel_rfl) rfl) (hcs.below hb) hcl (fun c hc w' _ => pdwrong_any c w' (hct c hc).1 (hct c hc).2))
  have HTw := Lib.hid (fun (ho : ∀ c ∈ cs, okC c = true) (w1 : World) (hb : Below w.heap.size w w1) => pdtwice_any cs (fun c hc => by have := okC_iff.1 (ho c hc); omega) C cc w1 (hcs.below hb) hcl)
  have HBd := Lib.hid (fun (w1 : World) (hb : Below w.heap.size w w1) (T : Nat) (f : Txs) (hT : TD w1 T f) (hok : OkX f) => pdbuild_any (hA.below hb) hT hok)
  have HTr := Lib.hid (fun (w1 : World) (hb : Below w.heap.size w w1) (r : Sh × Int × Nat) (e : Ending) (w2 : World) (q : TPutQ w1 B a room s (fun g => K g ∨ (w.heap.size ≤ g ∧ g < w1.heap.size)) r e w2) => (show TPutQ w B a room s K r e w2 from by
    obtain ⟨K2, he, hl⟩ := q
    exact ⟨K2, he, lf9_trans hA hb hl⟩))
  have HSm := Lib.hid (fun (w1 : World) (hb : Below w.heap.size w w1) (x : Int) (c : Nat) => (show TPutQ w B a room s K (s, x, c) (.returned (.tuple #[.int .i64 x, .int .i64 (c : Int)])) w1 from ⟨_, rfl, lf9_same hA hb⟩))
  have HNo := Lib.hid (fun e => apl_none (room := room) (s := s) (h := h) (cs := cs) e)
  have HBa := Lib.hid (fun (l : List En) e (c : Ch) hc ho => apl_bad (room := room) (s := s) (h := h) (cs := cs) (l := l) e (c := c) hc ho)
  have HDu := Lib.hid (fun (l : List En) e hc hd => apl_dup (room := room) (s := s) (h := h) (cs := cs) (l := l) e hc hd)
  have HCl := Lib.hid (fun (l : List En) e hc hd hr => apl_clash (room := room) (s := s) (h := h) (cs := cs) (l := l) e hc hd hr)
  have HYe := Lib.hid (fun (l m : List En) e hc hd hr => apl_yes (room := room) (s := s) (h := h) (cs := cs) (l := l) (m := m) e hc hd hr)
  have HIs := Lib.hid (fun (l : List En) e => hasT_is (s := s) (h := h) (l := l) e)
  clear hA hcs hct
  unfold ReadQ at HRd
  generalize hPR : pAplR room s h cs = PR at *
  clear hPR
  generalize hasT s h = rh at *
  go_enter Tryz.func17, Tryz.ntmps17
  go_wp2_with fail
  refine HRd.out.mono ?_; rintro e w1 ⟨f, b, rfl, hok, hhas, hb1⟩
  have HOf := Lib.hid hok
  have HHf := Lib.hid hhas
  have hba : Below w.heap.size w (w1.alloc (.cells (txC f) 80)) := hb1.alloc hb1.size _
  have hTf : TD (w1.alloc (.cells (txC f) 80)) w1.heap.size f := heap_alloc_new w1 _
  have hBw := hb1.size
  have HB2 := Lib.hid hba
  have HT2 := Lib.hid hTf
  have HCc := Lib.hid (HCo.out _ hba)
  clear hok hhas hb1 hba hTf HRd
  cases b with
  | false =>
    have HE := Lib.hid (HNo.out (HHf.out.trans (if_neg (by decide))))
    clear HNo HBa HDu HCl HYe HIs HBd HTr HTw HCo
    go_wp2_with (refine wpList_store_row rfl 80 _ _ rfl w1.heap.size (txC f) rfl rfl 80 _ (heap_alloc_new w1 _) (by rw [txC_size]; exact dtx_info) (by rw [txC_size]; first | exact hold_dt | rfl) (txC_one f) ?_; rw [World.setRow_alloc_new])
    go_ret2
    rw [HE.out]
    exact HSm.out _ HB2.out 0 1
  | true =>
    have HH := Lib.hid (HHf.out.trans (if_pos rfl))
    have HBa2 := Lib.hid (HBa.out _ HH.out)
    have HDu2 := Lib.hid (HDu.out _ HH.out)
    have HCl2 := Lib.hid (HCl.out _ HH.out)
    have HYe2 := Lib.hid (fun m => HYe.out _ m HH.out)
    have HRg := Lib.hid (rg_of (HIs.out _ HH.out).1)
    have HTx := Lib.hid (fun (k : Nat) (hk : k < 1024) => (tx_ent HOf.out hk).symm)
    clear HNo HBa HDu HCl HYe HIs HHf HH
    generalize entX f 1024 = l at *
    go_wp2_with (refine wpList_store_row rfl 80 _ _ rfl w1.heap.size (txC f) rfl rfl 80 _ (heap_alloc_new w1 _) (by rw [txC_size]; exact dtx_info) (by rw [txC_size]; first | exact hold_dt | rfl) (txC_one f) ?_; rw [World.setRow_alloc_new])
    refine HCc.out.mono ?_; rintro e w3 ⟨rfl, hb3⟩
    have HB3 := Lib.hid (HB2.out.trans (hb3.mono HB2.out.size))
    have HT3 := Lib.hid (HT2.out.below hb3)
    clear hb3 HT2 HB2 HCc HCo
    cases hany : (cs.any fun c => !okC c) with
    | true =>
      obtain ⟨c, hc, ho⟩ := List.any_eq_true.1 hany
      have HE := Lib.hid (HBa2.out c hc (by simpa using ho))
      clear hc ho hany HBa2 HDu2 HCl2 HYe2
      go_wp2_with fail
      go_ret2
      rw [HE.out]
      exact HSm.out _ HB3.out 0 1
    | false =>
      have HOk : Hid (∀ c ∈ cs, okC c = true) := Lib.hid fun c hc => by
        have := List.any_eq_false.1 hany c hc
        simpa using this
      have HTc := Lib.hid (HTw.out HOk.out w3 HB3.out)
      clear hany HBa2 HTw
      unfold TwQ at HTc
      go_wp2_with fail
      refine HTc.out.mono ?_; rintro e w4 ⟨b2, rfl, hb2, hb4⟩
      have HB4 := Lib.hid (HB3.out.trans (hb4.mono HB3.out.size))
      have HT4 := Lib.hid (HT3.out.below hb4)
      have HD0 := Lib.hid hb2
      clear hb2 hb4 HT3 HB3 HTc
      cases b2 with
      | true =>
        have HE := Lib.hid (HDu2.out HOk.out (HD0.out.1 rfl))
        clear HDu2 HCl2 HYe2
        go_wp2_with fail
        go_ret2
        rw [HE.out]
        exact HSm.out _ HB4.out 0 5
      | false =>
        have HD : Hid (DisC cs) := Lib.hid (Classical.byContradiction fun hn => by have := HD0.out.2 hn; cases this)
        have HCl3 := Lib.hid (HCl2.out HOk.out HD.out)
        have HYe3 := Lib.hid (fun m => HYe2.out m HOk.out HD.out)
        clear HDu2 HCl2 HYe2 HD0 HD
        generalize w1.heap.size = B1 at *
        go_wp2_with fail
        go_loopw [28] (fun vi wr => ∃ (i : Nat) (g : Txs) (H : List En), i ≤ cs.length ∧ vi = .int .i64 (i : Int) ∧ Hid (TD wr B1 g) ∧ Hid (OkX g) ∧ Hid (∀ k : Nat, k < 1024 → g k = txE H (k : Int)) ∧ Hid (Rg H) ∧ Hid (runC l cs = runC H (cs.drop i)) ∧ Hid (Below w.heap.size w wr)) (fun vi _ => cs.length - (RowKit.intOf vi).toNat)
        case atStart => exact ⟨0, f, l, Nat.zero_le _, rfl, HT4, HOf, HTx, HRg, Lib.hid rfl, HB4⟩
        case round =>
          clear HT4 HOf HTx HRg HB4
          obtain ⟨i, g, H, hi, rfl, HT, HOg, HGx, HRg, HRu, HB⟩ := hrel
          by_cases hlt : i < cs.length
          · obtain ⟨c, hc⟩ : ∃ c, cs[i]? = some c := ⟨_, List.getElem?_eq_getElem hlt⟩
            obtain ⟨gC, oC, rfl, _, hgl, hat⟩ := (HC.out _ (Below.refl _ _)).at hlt
            obtain ⟨q0, q1, q2⟩ := hat.three hc
            have k0 := keep_cell HB.out q0
            have k1 := keep_cell HB.out q1
            have k2 := keep_cell HB.out q2
            have hoc := HOk.out c (List.mem_of_getElem? hc)
            have HRn := Lib.hid (run_nextP hc HRu.out)
            have HSt := Lib.hid (set_step HRg.out hoc HGx.out)
            have HAt := Lib.hid (at_step hoc HGx.out)
            have HSr := Lib.hid (step_rg HRg.out hoc)
            have hkc := okC_iff.1 hoc
            obtain ⟨j, hj⟩ : ∃ j : Nat, c.key = (j : Int) := ⟨c.key.toNat, by omega⟩
            have hj1 : j < 1024 := by omega
            have hjn : c.key.toNat = j := by omega
            rw [hjn] at HSt HAt
            have HOn := Lib.hid (setX_ok HOg.out j (v := c.tt) hkc.2.2.2.1)
            have hI : (i : Int) < (cs.length : Int) := by omega
            have hJ0 : (0 : Int) ≤ (j : Int) := by omega
            have hJ1 : (j : Int) < 1024 := by omega
            obtain ⟨kc, fc, tc⟩ := c
            obtain rfl : kc = (j : Int) := hj
            have hba : Below wr.heap.size wr (wr.alloc (.cells #[.int .i64 (j : Int), .string ⟨fc.toArray⟩, .string ⟨tc.toArray⟩] 57)) := (Below.refl _ _).alloc (Nat.le_refl _) _
            have zM := HT.out.lt
            have HBn := Lib.hid (HB.out.trans (hba.mono HB.out.size))
            have HTn := Lib.hid (HT.out.below hba)
            have t0 := HTn.out.cell hj1
            clear hat q0 q1 q2 hc hkc hba hjn hoc HT HB
            by_cases hf : txE H (j : Int) = fc
            · have hr := HRn.out
              rw [if_pos hf] at hr
              have HR2 := Lib.hid hr
              have hgf : g j = fc := HAt.out.trans hf
              rw [hgf] at t0
              clear hr hf hgf HRn HAt
              generalize stepC H ⟨(j : Int), fc, tc⟩ = H2 at *
              go_wp2_with fail
              go_quiet (fail)
              obtain ⟨W5, hW5⟩ : ∃ W5, (wr.alloc (.cells #[.int .i64 (j : Int), .string ⟨fc.toArray⟩, .string ⟨tc.toArray⟩] 57)).drewN nq = W5 := ⟨_, rfl⟩
              rw [hW5]
              have hb5 : Below (wr.alloc (.cells #[.int .i64 (j : Int), .string ⟨fc.toArray⟩, .string ⟨tc.toArray⟩] 57)).heap.size (wr.alloc (.cells #[.int .i64 (j : Int), .string ⟨fc.toArray⟩, .string ⟨tc.toArray⟩] 57)) W5 := by rw [← hW5]; exact below_drewN (Below.refl _ _) _
              have hT5 := HTn.out.below hb5
              have u0 := hT5.cell hj1
              have u1 := hT5.frozen j
              have uz := hT5.lt
              have e0 : W5.cell? ⟨wr.heap.size, 0, none⟩ = some (.int .i64 (j : Int)) := keep_cell hb5 (by rw [Lib.cell_of_heap (heap_alloc_new wr _)]; rfl)
              have e2 : W5.cell? ⟨wr.heap.size, 2, none⟩ = some (.string ⟨tc.toArray⟩) := keep_cell hb5 (by rw [Lib.cell_of_heap (heap_alloc_new wr _)]; rfl)
              have hb6 := HBn.out.trans (hb5.mono HBn.out.size)
              have HT6 := Lib.hid (hT5.set hj1 tc)
              have HB6 := Lib.hid (hb6.setCell (p := ⟨B1, j, none⟩) hBw (.string ⟨tc.toArray⟩))
              clear hb5 hT5 hb6 hW5 HTn HBn t0 k0 k1 k2
              go_wp2_with fail
              go_roundw
              case rel => exact ⟨i + 1, _, H2, by omega, by go_num, HT6, HOn, HSt, HSr, HR2, HB6⟩
              case measure => simp [RowKit.intOf]; omega
            · have hr := HRn.out
              rw [if_neg hf] at hr
              have HE := Lib.hid (HCl3.out hr)
              have hgf : ¬ g j = fc := fun e => hf (HAt.out.symm.trans e)
              have d1 : (!g j == fc) = true := by simpa using hgf
              clear hr hf hgf HRn HAt HSr HSt
              generalize g j = GJ at *
              go_wp2_with fail
              go_quiet (fail)
              go_wp2_with fail
              go_ret2
              rw [HE.out]
              exact HSm.out _ (by first | exact below_drewN HBn.out _ | exact HBn.out) 0 7
          · have hii : i = cs.length := by omega
            subst hii
            have hr := HRu.out
            rw [List.drop_length, runC] at hr
            have HE := Lib.hid ((HYe3.out H hr).trans (congrArg (putT room s) (ent_sort HOg.out HRg.out HGx.out).symm))
            have HC9 := Lib.hid (HBd.out wr HB.out B1 g HT.out HOg.out)
            have HT9 := Lib.hid (fun r e w2 => HTr.out wr HB.out r e w2)
            rw [← HE.out] at HC9
            clear hr HRu HYe3 HCl3 HBd HTr HE
            go_wp2_with fail
            refine HC9.out.mono ?_; rintro e w5 hq
            obtain ⟨K5, rfl, hlf⟩ := HT9.out _ _ _ hq
            have HLf := Lib.hid hlf
            clear hlf hq HT9 HC9
            go_wp2_with fail
            go_ret2
            exact ⟨K5, rfl, HLf.out⟩
end Go.Proofs.YtjgjacihdggimaaGreatDoor
namespace Go.Proofs.YtjgjacihdggimaaGreatDoor
open Go.RowKit Go.Maps Go.Sort Go.Shelf
theorem rowIC_of_own {w : World} {base : Nat} {v : Value} {l : List Int} (h : w.ownsRow base 3 1 v l.length (l.map encZ)) : ∃ O co, v = .slice O l.length co ∧ RowI w (fun g => base ≤ g) O l ∧ l.length ≤ co := by
  have hm : l.map encZ = l.flatMap inW := by
    rw [List.map_eq_flatMap]; rfl
  rw [hm] at h
  obtain ⟨O, co, e, hk, hc⟩ := OwnR.shape (f := inW) (n := 1) (fun _ => rfl) (show OwnR 3 1 inW base w v l from h)
  refine ⟨O, co, e, ?_, hk⟩
  by_cases hne : l = []
  · exact .inl hne
  · obtain ⟨g, o, e', hat⟩ := hc hne
    have hob : v.ownBlock = some g := by rw [e, e']; rfl
    have hl := World.ownsRow.lt h g hob
    exact .inr ⟨g, o, e', hl.1, hl.2, fun j x hj => by have := hat j x hj 0 _ rfl; simpa using this⟩
theorem psortedC_of {w : World} (g : Nat) (lb : Array Value) (eg : ∀ args w, (callFunc g args).run Tryz.prog w = .ok (.enter g args) w) {t : Sh} (S : List Int → Prop) (hS : ∀ ss, S ss → ss.Perm (liveA t)) (N : Nat) (hN : N ≤ 65536) (hseq : SeqGives Fence.wide 2 Tryz.prog g lb encZ S N w) :
    Calls Tryz.prog 57 #[.func (.func g) #[] lb] w fun e w' => ∃ O co, e = .returned (.slice O (liveA t).length co) ∧ RowI w' (fun k => w.heap.size ≤ k) O (liveA t) ∧ Below w.heap.size w w' ∧ (liveA t).length ≤ co := by
  have cS := AnyZI.sorted_in Tryz.sortedA Fence.wide 5 trivial trivial trivial trivial rfl (by omega) (sortsA9 _) (enters_of Tryz.func75 (by kernel_rfl) rfl) g lb trivial eg _ _ (by unfold maxLen; omega) (by omega) w hseq
  refine (callsIn_wide.1 cS).mono fun e w' ⟨v, ss, he, hs, hrow, _, hb⟩ => ?_
  have e1 := sorted_live (hS ss hs)
  have e2 := (hS ss hs).length_eq
  rw [e1, e2] at hrow
  obtain ⟨O, co, hv, hr, hk⟩ := rowIC_of_own hrow
  exact ⟨O, co, by rw [he, hv], hr, hb, hk⟩
section
variable {w : World} {K : Nat → Prop} {a room cS bK low : Nat} {ps : List (Option Nat)} {t : Sh} {SA : Option Addr}
set_option maxHeartbeats 8000000 in
set_option maxRecDepth 10000 in
theorem pReachC_any (h : AR w K a room ps t t SA cS bK low) (hft : FitT t) (hI : Inv room t) (roots : List Int) (Q : Nat → Prop) (A : Option Addr) (ca : Nat) (hl : RowI w Q A roots) (hll : roots.length ≤ 1000) (h64 : B64s roots) :
    Calls Tryz.prog 36 #[.pointer (some ⟨a, 0, none⟩), .slice A roots.length ca] w fun e w' => ∃ O co, e = .returned (.slice O (reachA t roots).length co) ∧ RowI w' (fun g => w.heap.size ≤ g) O (reachA t roots) ∧ Below w.heap.size w w' ∧ (reachA t roots).length ≤ co := by
  have HRe := Lib.hid (preached_any h hft hI roots Q A ca hl hll h64)
  have hlv : (liveA t).length ≤ 65536 := by
    have := liveF_len t 1
    have := h.len
    have := h.wide
    unfold liveA; omega
  have HI := Lib.hid hI
  clear h hft hl h64
  go_enter Tryz.func36, Tryz.ntmps36
  go_wp2_with fail
  refine HRe.out.mono ?_; rintro e w1 ⟨m, S, rfl, hm, hms, hS, hb1⟩
  have hba : Below w1.heap.size w1 (w1.alloc (.cells #[.map (some m)] 117)) := (Below.refl _ _).alloc (Nat.le_refl _) _
  have hblk := (MapKept.heap_alloc w1 (.cells #[.map (some m)] 117)).1
  have hcell : (w1.alloc (.cells #[.map (some m)] 117)).cell? ⟨w1.heap.size, 0, none⟩ = some (.map (some m)) := by rw [Lib.cell_of_heap hblk]; rfl
  have hP : S.Perm (liveA (leftA t roots)) := by
    refine (List.perm_ext_iff_of_nodup hms.nd ((liveF_up (leftA t roots) 1).1.imp fun {a b} hab => by omega)).2 fun x => ?_
    show _ ↔ x ∈ liveA (leftA t roots)
    rw [hS x, liveA_mem]
    unfold live
    rw [left_at]
    constructor
    · intro hr
      rw [if_pos hr]
      exact rch_live hI hr
    · intro hl
      by_cases hr : Rch t roots x
      · exact hr
      · rw [if_neg hr] at hl; cases hl
  have hSl : S.length ≤ 65536 := by
    have h1 := hP.length_eq
    have h2 := left_len t roots
    unfold reachA at h2
    omega
  obtain ⟨D, hD, hnd, hkD, _⟩ := hms.block (Below.heap_alloc w1 (.cells #[.map (some m)] 117) m hms.lt)
  have hpk := keys_wf hD hnd hkD
  have hsz : Maps.size D = S.length := by
    obtain ⟨es, hDe, _⟩ := hD.entries int9Keyed
    rw [hpk.length_eq, hDe]
    show es.length = (es.map _).length
    rw [List.length_map]
  have HS := Lib.hid (psortedC_of 76 #[.pointer (some ⟨w1.heap.size, 0, none⟩)] (enters_of Tryz.func76 (by kernel_rfl) rfl) (t := leftA t roots) (fun ss => ss.Perm (intKeys D)) (fun ss hs => hs.trans (hpk.symm.trans hP)) (Maps.size D) (by omega)
    (AnyZI.keys_gives (ρ := Tryz.keysA_ren) { Tryz.keysA with } Fence.wide _ trivial rfl (by omega) w1.heap.size m _ D (w1.alloc (.cells #[.map (some m)] 117)) (by simp) hcell hD))
  have HBa := Lib.hid hba
  have HB1 := Lib.hid hb1
  clear hD hblk hcell hba hms hb1 hP hpk hkD hnd hS hsz HRe
  go_wp2_with fail
  refine (pKeys_any (some m) w1).mono ?_; rintro e w2 ⟨rfl, rfl⟩
  go_wp2_with fail
  refine HS.out.mono ?_; rintro e w2 ⟨O, co, rfl, hr, hb, hk⟩
  have HR := Lib.hid hr
  have HK : Hid ((reachA t roots).length ≤ co) := Lib.hid hk
  have HB := Lib.hid hb
  clear hr hb hk
  go_wp2_with fail
  go_ret
  exact ⟨O, co, rfl, HR.out.mono fun g hg _ => Nat.le_trans (Nat.le_trans HB1.out.size HBa.out.size) hg, HB1.out.trans ((HBa.out.trans (HB.out.mono HBa.out.size)).mono HB1.out.size), HK.out⟩
end
theorem o9ReachC {w : World} {B a room : Nat} {K : Nat → Prop} {s : Sh} (h : On9 w B a room s K) (l : List Int) (Al : Option Addr) (ca : Nat) {Q : Nat → Prop} (hl : RowI w Q Al l) (hll : l.length ≤ 1000) (h64 : B64s l) :
    Calls Tryz.prog 36 #[.pointer (some ⟨a, 0, none⟩), .slice Al l.length ca] w fun e w' => ∃ O co, e = .returned (.slice O (reachA s l).length co) ∧ RowI w' (fun g => w.heap.size ≤ g) O (reachA s l) ∧ Below w.heap.size w w' ∧ (reachA s l).length ≤ co := by
  obtain ⟨F, h⟩ := h
  have hI := h.inv
  obtain ⟨K, ps, t, A, cS, bK, low, hA, hL, hF, hE, hO, hC, hB, hT⟩ := h.ap
  refine (pReachC_any hA hF (inv_eqv hI hE hA.len) l Q Al ca hl hll h64).mono fun e w' ⟨O, co, he, hr, hb, hk⟩ => ?_
  rw [hE.reach l] at he hr hk
  exact ⟨O, co, he, hr, hb, hk⟩
end Go.Proofs.YtjgjacihdggimaaGreatDoor
