/- Texts joined: GrF, GrG, GrH, NdFi. -/
import Derived.Test.YtbppkflgokfjhaaGj11
import Derived.Deep.RegionLawGrows
import Derived.Test.YtbppkflgokfjhaaGj01
import Derived.Deep.RegionWith
import Derived.Test.YtbppkflgokfjhaaGj02
set_option linter.all false
namespace Go.Proofs.Ytbppkflgokfjhaa
open Go.RowKit
noncomputable def cycT (L : List Lk) (ns : List Int) : List Int := ns.filter fun n => haveI := Classical.propDecidable (cycN L n); decide (cycN L n)
theorem cycT_all {L : List Lk} (N : Nat) : cycT L (nodesG L N) = cycG L N := by
  unfold cycT nodesG cycG
  induction N with
  | zero => rfl
  | succ k ih =>
    rw [upto, upto, List.filter_append, ih]
    congr 1
    by_cases h : cycN L (k : Int)
    · have hn : isN L (k : Int) := hng_node h
      rw [if_pos h, if_pos hn]
      simp [h]
    · rw [if_neg h]
      split
      · simp [h]
      · rfl
theorem cycT_yes {L : List Lk} {ns : List Int} {i : Nat} {n : Int} (hn : ns[i]? = some n) (h : cycN L n) : cycT L (ns.take (i + 1)) = cycT L (ns.take i) ++ [n] := by
  unfold cycT
  rw [List.take_add_one, hn, List.filter_append]
  congr 1
  simp [h]
theorem cycT_no {L : List Lk} {ns : List Int} {i : Nat} {n : Int} (hn : ns[i]? = some n) (h : ¬ cycN L n) : cycT L (ns.take (i + 1)) = cycT L (ns.take i) := by
  unfold cycT
  rw [List.take_add_one, hn, List.filter_append]
  simp [h]
theorem cycT_len (L : List Lk) (ns : List Int) : (cycT L ns).length ≤ ns.length := List.length_filter_le _ _
set_option maxHeartbeats 16000000 in
set_option maxRecDepth 10000 in
theorem gcyclic_any (N : Nat) (hN : N = 1024) (l : List LkM) (hk : OkK (lkS l)) (A : Option Addr) (ca : Nat) (w : World) {P : Nat → Prop} (hl : RowL w P A l) (hll : l.length ≤ 100000) (hrl : ∀ q ∈ l, q.rd.length ≤ 1000000) :
    Calls Try.prog 14 #[.slice A l.length ca] w fun e w' => GRow w (cycG (lkS l) N) e w' := by
  obtain ⟨i0, hi0, hz0, hz1, hz2⟩ := info_parts gint_info
  have HN := Lib.hid hN
  have HNo := Lib.hid (gnodes_any N hN l A ca w hl (by omega))
  have HHg := Lib.hid (fun (w1 : World) (hb : Below w.heap.size w w1) (on : List Int) (O : Option Addr) (co : Nat) (Q : Nat → Prop) (ho : RowI w1 Q O on) (hol : on.length ≤ 1000000) => ghang_any N hN l A ca on O co w1 (hl.below hb) ho hll hol hrl)
  have HM : Hid (∀ on n, n ∈ hangG (lkS l) on N ↔ Hng (lkS l) on n) := Lib.hid fun on n => by rw [hN]; exact hangG_mem hk
  have HAl := Lib.hid (cycT_all (L := lkS l) N)
  have hnl : (nodesG (lkS l) N).length ≤ N := upto_len _ _
  rw [← HAl.out]
  clear hl hN hrl HAl hk
  generalize lkS l = L at *
  generalize nodesG L N = NS at *
  unfold GRow at HNo HHg
  go_enter Try.func14, Try.ntmps14
  go_wp2_with fail
  refine HNo.out.mono ?_; rintro e w1 ⟨O1, c1, rfl, hc1, hr1, hb1⟩
  have HR1 := Lib.hid hr1
  have HB1 := Lib.hid hb1
  have hnl2 : NS.length ≤ 1024 := by have := HN.out; omega
  clear hr1 hb1 HNo hnl
  go_wp2_with fail
  go_loopw [4, 5] (fun v vi wr => ∃ (i : Nat), i ≤ NS.length ∧ vi = .int .i64 (i : Int) ∧ Hid (OwnR 3 1 inW w1.heap.size wr v (cycT L (NS.take i))) ∧ Hid (Below w1.heap.size w1 wr)) (fun _ vi _ => NS.length - (RowKit.intOf vi).toNat)
  case atStart => exact ⟨0, Nat.zero_le _, rfl, Lib.hid (by rw [List.take_zero]; exact World.ownsRow_nil _ _ _ _), Lib.hid (Below.refl _ _)⟩
  case round =>
    obtain ⟨i, hi, rfl, HO, HB⟩ := hrel
    have hbs := HB.out.size
    by_cases hlt : i < NS.length
    · obtain ⟨n, hn⟩ : ∃ n, NS[i]? = some n := ⟨_, List.getElem?_eq_getElem hlt⟩
      obtain ⟨g, o, rfl, hpg, hgl, hat⟩ := HR1.out.at hlt
      have q0 := hat i n hn
      have k0 := keep_cell HB.out q0
      have hI : (i : Int) < (NS.length : Int) := by omega
      have hJ : (0 : Int) ≤ (i : Int) := by omega
      have hrow : ∀ W, Below w1.heap.size w1 W → RowI W (fun _ => True) (some ⟨g, o + i, none⟩) [n] := fun W hW => .inr ⟨g, o + i, rfl, trivial, Nat.lt_of_lt_of_le hgl hW.size, fun j x hj => by
        cases j with
        | succ j => simp at hj
        | zero =>
          obtain rfl : n = x := by simpa using hj
          exact keep_cell hW q0⟩
      have HC := Lib.hid (fun (W : World) (hW : Below w1.heap.size w1 W) => HHg.out W (HB1.out.trans (hW.mono HB1.out.size)) [n] (some ⟨g, o + i, none⟩) (c1 - i) _ (hrow W hW) (by simp))
      have HY := Lib.hid (fun h => cycT_yes (L := L) hn h)
      have HX := Lib.hid (fun h => cycT_no (L := L) hn h)
      have HMn := Lib.hid (HM.out [n] n)
      have hHl : (hangG L [n] N).length ≤ 1024 := by have := upto_len (Hng L [n]) N; have := HN.out; unfold hangG; omega
      have hcl : (cycT L (NS.take i)).length ≤ 1024 := by have := cycT_len L (NS.take i); rw [List.length_take] at this; omega
      clear hat q0 hrow hn
      generalize hangG L [n] N = HL at *
      have hci : i < c1 := by omega
      have hcz : ¬ c1 = i := by omega
      obtain ⟨i1, hi1⟩ : ∃ i1 : Nat, i1 = i + 1 := ⟨_, rfl⟩
      have hwr : IntKind.i64.wrap ((i : Int) + 1) = (i1 : Int) := by rw [IntKind.wrap_i64]; omega
      have hia : (0 : Int) ≤ (i1 : Int) := by omega
      have hib : (i1 : Int) ≤ (c1 : Int) := by omega
      have hic : i1 ≤ c1 := by omega
      have hid : i ≤ i1 := by omega
      have hie : i1 - i = 1 := by omega
      have HI1 := Lib.hid hi1
      clear hi1
      obtain ⟨M, hM⟩ : ∃ M, (cycT L (NS.take i)).length = M := ⟨_, rfl⟩
      have HMl := Lib.hid hM
      rw [hM] at hcl
      clear hM
      by_cases hin : n ∈ HL
      · have d0 : decide (n ∈ HL) = true := decide_eq_true hin
        have HE := Lib.hid (HY.out (HMn.out.1 hin))
        clear HY HX HMn hin
        go_wp2_with fail
        go_region_law (first
          | (go_simp; go_at_call 18
             refine (HC.out _ (by with_reducible repeat' (first | exact HB.out | refine Below.drew ?_))).mono ?_; rintro e w3 ⟨O3, c3, rfl, hc3, hr3, hb3'⟩
             have hb3 : Below w1.heap.size w1 w3 := HB.out.trans ((by first | exact hb3' | exact (Below.drew (Below.refl wr.heap.size wr)).trans hb3' : Below wr.heap.size wr w3).mono hbs)
             have hb3w : Below wr.heap.size wr w3 := by first | exact hb3' | exact (Below.drew (Below.refl wr.heap.size wr)).trans hb3'
             have k3 := keep_cell hb3w k0
             have HHs := Lib.hid (ghas_any HL O3 c3 w3 hr3 (by omega) n)
             have HB3 := Lib.hid hb3
             have HO3 := Lib.hid (HO.out.below hb3w)
             clear hc3 hr3 hb3 hb3' hb3w)
          | (go_simp; go_at_call 30
             refine HHs.out.mono ?_; rintro e w4 ⟨rfl, hw4⟩
             have hw4' := hw4.symm
             subst hw4'
             clear hw4)
          | fail)
        all_goals
          have hs3 := HB3.out.size
          go_wp2_with (at_builtin; refine of_stop ?_)
          refine stop_of ?_
          have b0 : Below w1.heap.size w3 (w3.alloc (.cells #[.int .i64 n] 3)) := (Below.refl _ _).alloc hs3 _
          refine wpList_append_rows (f := inW) (n := 1) (E := 3) (nb := 8) (X := cycT L (NS.take i)) (base := w1.heap.size) rfl _ _ rfl rfl (OwnR.below HO3.out ((Below.refl _ _).alloc (Nat.le_refl _) _)) (L2 := [n]) rfl (one_row w3 n) (by simp) (N := M + 1) (by rw [HMl.out]; rfl) (Z := cycT L (NS.take (i + 1))) HE.out.symm Try.underlying23 hi0 hz0 hz1 hz2 rfl (by decide) (by decide) (fun _ => rfl) inW_one (by omega) (by simp; omega) ?_
          intro g4 k4 w4 ho4 hg4 hat4 hl4
          have hb4 : Below w1.heap.size w3 w4 := Below.grown b0 hg4 (by simp; omega) (fun k hk => (World.ownsRow.lt HO3.out k hk).1)
          have HO4 := Lib.hid ho4
          have HB4 := Lib.hid (HB3.out.trans hb4)
          clear ho4 hg4 hat4 hl4 hb4 b0
          go_wp2_with fail
          go_roundw
          case rel => exact ⟨i + 1, by omega, by go_num, HO4, HB4⟩
          case measure => simp [RowKit.intOf]; omega
      · have d0 : decide (n ∈ HL) = false := decide_eq_false hin
        have HE := Lib.hid (HX.out (fun h => hin (HMn.out.2 h)))
        clear HY HX HMn hin
        go_wp2_with fail
        go_region_law (first
          | (go_simp; go_at_call 18
             refine (HC.out _ (by with_reducible repeat' (first | exact HB.out | refine Below.drew ?_))).mono ?_; rintro e w3 ⟨O3, c3, rfl, hc3, hr3, hb3'⟩
             have hb3 : Below w1.heap.size w1 w3 := HB.out.trans ((by first | exact hb3' | exact (Below.drew (Below.refl wr.heap.size wr)).trans hb3' : Below wr.heap.size wr w3).mono hbs)
             have hb3w : Below wr.heap.size wr w3 := by first | exact hb3' | exact (Below.drew (Below.refl wr.heap.size wr)).trans hb3'
             have k3 := keep_cell hb3w k0
             have HHs := Lib.hid (ghas_any HL O3 c3 w3 hr3 (by omega) n)
             have HB3 := Lib.hid hb3
             have HO3 := Lib.hid (HO.out.below hb3w)
             clear hc3 hr3 hb3 hb3' hb3w)
          | (go_simp; go_at_call 30
             refine HHs.out.mono ?_; rintro e w4 ⟨rfl, hw4⟩
             have hw4' := hw4.symm
             subst hw4'
             clear hw4)
          | fail)
        all_goals
          rw [← HE.out] at HO3
          go_wp2_with fail
          go_roundw
          case rel => exact ⟨i + 1, by omega, by go_num, HO3, HB3⟩
          case measure => simp [RowKit.intOf]; omega
    · have hii : i = NS.length := by omega
      subst hii
      have hO := HO.out
      rw [List.take_length] at hO
      obtain ⟨O5, c5, hv5, hc5, hr5⟩ := own_rowG hO
      subst hv5
      have HR5 := Lib.hid (hr5.mono (Q := fun g => w.heap.size ≤ g) fun g hg _ => Nat.le_trans HB1.out.size hg)
      have HBz := Lib.hid (HB1.out.trans (HB.out.mono HB1.out.size))
      clear hr5 hO
      go_wp2_with fail
      go_ret
      exact ⟨O5, c5, rfl, hc5, HR5.out, HBz.out⟩
end Go.Proofs.Ytbppkflgokfjhaa
namespace Go.Proofs.Ytbppkflgokfjhaa
open Go.RowKit
def wayB (l : List LkM) (cyc told : List Int) (r : Int) : Bool := (findM l r).isSome && (!decide (r ∈ cyc) && !decide (r ∈ told))
def rdyB (l : List LkM) (cyc told rd : List Int) : Bool := rd.all fun r => !wayB l cyc told r
theorem rdyB_iff {l : List LkM} {cyc told rd : List Int} {an : Int} (hc : ∀ n, n ∈ cyc ↔ cycN (lkS l) n) : rdyB l cyc told rd = true ↔ rdyX (lkS l) told ⟨an, rd⟩ := by
  unfold rdyB rdyX wayB
  rw [List.all_eq_true]
  constructor
  · intro h r hr hn hcy
    have h1 := h r hr
    rw [(findM_node l r).2 hn, decide_eq_false (fun q => hcy ((hc r).1 q))] at h1
    simpa using h1
  · intro h r hr
    by_cases hn : isN (lkS l) r
    · by_cases hcy : cycN (lkS l) r
      · rw [decide_eq_true ((hc r).2 hcy)]; simp
      · rw [decide_eq_true (h r hr hn hcy)]; simp
    · have : (findM l r).isSome = false := Bool.eq_false_iff.2 fun q => hn ((findM_node l r).1 q)
      rw [this]; rfl
set_option maxHeartbeats 16000000 in
set_option maxRecDepth 10000 in
theorem gready_any (l : List LkM) (A : Option Addr) (ca : Nat) (q : LkM) (cyc told : List Int) (C T : Option Addr) (cc ct : Nat) (w : World) {P Q R S : Nat → Prop} (hl : RowL w P A l) (hq : RowI w Q q.RA q.rd) (hc : RowI w R C cyc) (ht : RowI w S T told) (hll : l.length ≤ 1000000) (hql : q.rd.length ≤ 1000000) (hcl : cyc.length ≤ 1000000) (htl : told.length ≤ 1000000) :
    Calls Try.prog 35 #[.slice A l.length ca, .agg #[.int .i64 q.at_, .slice q.RA q.rd.length q.rc], .slice C cyc.length cc, .slice T told.length ct] w fun e w' => e = .returned (.bool (rdyB l cyc told q.rd)) ∧ Below w.heap.size w w' := by
  obtain ⟨an, rd, RA, rc⟩ := q
  have hba : Below w.heap.size w (w.alloc (.cells #[.int .i64 an, .slice RA rd.length rc] 51)) := (Below.refl _ _).alloc (Nat.le_refl _) _
  have HBa := Lib.hid hba
  have HQ := Lib.hid hq
  have HFd := Lib.hid (fun (w1 : World) (hb : Below w.heap.size w w1) (n : Int) => gfind_any l A ca w1 (hl.below hb) hll n)
  have HHc := Lib.hid (fun (w1 : World) (hb : Below w.heap.size w w1) (n : Int) => ghas_any cyc C cc w1 (hc.below hb) hcl n)
  have HHt := Lib.hid (fun (w1 : World) (hb : Below w.heap.size w w1) (n : Int) => ghas_any told T ct w1 (ht.below hb) htl n)
  have z1 : (w.alloc (.cells #[.int .i64 an, .slice RA rd.length rc] 51)).cell? ⟨w.heap.size, 1, none⟩ = some (.slice RA rd.length rc) := by rw [Lib.cell_of_heap (heap_alloc_new w _)]; rfl
  have HZ := Lib.hid z1
  clear hba hq hl hc ht z1
  go_enter Try.func35, Try.ntmps35
  go_wp2_with fail
  have hzW : w.heap.size < (w.alloc (.cells #[.int .i64 an, .slice RA rd.length rc] 51)).heap.size := by simp
  generalize w.alloc (.cells #[.int .i64 an, .slice RA rd.length rc] 51) = W at *
  go_loopw [9] (fun vi wr => ∃ i : Nat, i ≤ rd.length ∧ vi = .int .i64 (i : Int) ∧ Hid (∀ r ∈ rd.take i, wayB l cyc told r = false) ∧ Hid (Below W.heap.size W wr)) (fun vi _ => rd.length - (RowKit.intOf vi).toNat)
  case atStart => exact ⟨0, Nat.zero_le _, rfl, Lib.hid (by simp), Lib.hid (Below.refl _ _)⟩
  case round =>
    obtain ⟨i, hi, rfl, HT, HB⟩ := hrel
    have y1 := keep_cell HB.out HZ.out
    have hzr : w.heap.size < wr.heap.size := Nat.lt_of_lt_of_le hzW HB.out.size
    by_cases hlt : i < rd.length
    · obtain ⟨r, hr⟩ : ∃ r, rd[i]? = some r := ⟨_, List.getElem?_eq_getElem hlt⟩
      obtain ⟨g, o, rfl, _, hgl, hat⟩ := HQ.out.at hlt
      have q0 := hat i r hr
      have HBw := Lib.hid (fun (w1 : World) (hb : Below W.heap.size W w1) => HBa.out.trans (hb.mono HBa.out.size))
      have k0 := (HBw.out wr HB.out).cell (p := ⟨g, o + i, none⟩) hgl |>.trans q0
      have hI : (i : Int) < (rd.length : Int) := by omega
      have hJ : (0 : Int) ≤ (i : Int) := by omega
      have HR := Lib.hid hr
      have HK := Lib.hid (fun (w1 : World) (hb : Below W.heap.size W w1) => (show w1.cell? ⟨g, o + i, none⟩ = some (.int .i64 r) from ((HBw.out w1 hb).cell (p := ⟨g, o + i, none⟩) hgl).trans q0))
      have HY := Lib.hid (fun (w1 : World) (hb : Below W.heap.size W w1) => (show w1.cell? ⟨w.heap.size, 1, none⟩ = some (.slice (some ⟨g, o, none⟩) rd.length rc) from keep_cell hb HZ.out))
      have HC1 := Lib.hid (HFd.out wr (HBw.out wr HB.out) r)
      clear hat hr q0
      cases hf : findM l r with
      | none =>
        rw [hf] at HC1
        have HW : Hid (wayB l cyc told r = false) := Lib.hid (by unfold wayB; rw [hf]; rfl)
        unfold fndV at HC1
        have HT2 : Hid (∀ r ∈ rd.take (i + 1), wayB l cyc told r = false) := Lib.hid fun x hx => by
          rw [List.take_add_one, HR.out] at hx
          rcases List.mem_append.1 hx with e | e
          · exact HT.out x e
          · obtain rfl : x = r := by simpa using e
            exact HW.out
        clear hf
        go_wp2_with fail
        refine HC1.out.mono ?_; rintro e w1 ⟨rfl, hb1⟩
        have hB1 := (HB.out.trans (hb1.mono HB.out.size)).alloc (by have := HB.out.size; have := hb1.size; omega) (.cells #[.int .i64 0, .slice none 0 0] 51)
        have HB1 := Lib.hid hB1
        have HC2 := Lib.hid (HHc.out _ (HBw.out _ hB1) r)
        have k1 := HK.out _ hB1
        have y2 := HY.out _ hB1
        have hz2 : w.heap.size < (w1.alloc (.cells #[.int .i64 0, .slice none 0 0] 51)).heap.size := Nat.lt_of_lt_of_le hzW hB1.size
        have HC3 := Lib.hid (HHt.out _ (HBw.out _ hB1) r)
        clear hb1 hB1 HC1 k0 y1
        go_wp2_with fail
        refine HC2.out.mono ?_; rintro e w3 ⟨rfl, hw3⟩
        have hw3' := hw3.symm
        subst hw3'
        clear hw3
        go_wp2_with fail
        refine HC3.out.mono ?_; rintro e w3 ⟨rfl, hw3⟩
        have hw3' := hw3.symm
        subst hw3'
        clear hw3
        go_wp2_with fail
        go_roundw
        case rel => exact ⟨i + 1, by omega, by go_num, HT2, HB1⟩
        case measure => simp [RowKit.intOf]; omega
      | some q2 =>
        obtain ⟨an2, rd2, RA2, rc2⟩ := q2
        rw [hf] at HC1
        have HW : Hid (wayB l cyc told r = (!decide (r ∈ cyc) && !decide (r ∈ told))) := Lib.hid (by unfold wayB; rw [hf]; rfl)
        unfold fndV at HC1
        have HT2 : Hid (wayB l cyc told r = false → ∀ r ∈ rd.take (i + 1), wayB l cyc told r = false) := Lib.hid fun hw x hx => by
          rw [List.take_add_one, HR.out] at hx
          rcases List.mem_append.1 hx with e | e
          · exact HT.out x e
          · obtain rfl : x = r := by simpa using e
            exact hw
        have HE : Hid (wayB l cyc told r = true → rdyB l cyc told rd = false) := Lib.hid fun hw => by
          unfold rdyB
          rw [List.all_eq_false]
          exact ⟨r, List.mem_of_getElem? HR.out, by rw [hw]; decide⟩
        clear hf
        go_wp2_with fail
        refine HC1.out.mono ?_; rintro e w1 ⟨rfl, hb1⟩
        have hB1 := (HB.out.trans (hb1.mono HB.out.size)).alloc (by have := HB.out.size; have := hb1.size; omega) (.cells #[.int .i64 an2, .slice RA2 rd2.length rc2] 51)
        have HB1 := Lib.hid hB1
        have HC2 := Lib.hid (HHc.out _ (HBw.out _ hB1) r)
        have k1 := HK.out _ hB1
        have y2 := HY.out _ hB1
        have hz2 : w.heap.size < (w1.alloc (.cells #[.int .i64 an2, .slice RA2 rd2.length rc2] 51)).heap.size := Nat.lt_of_lt_of_le hzW hB1.size
        have HC3 := Lib.hid (HHt.out _ (HBw.out _ hB1) r)
        clear hb1 hB1 HC1 k0 y1
        go_wp2_with fail
        refine HC2.out.mono ?_; rintro e w3 ⟨rfl, hw3⟩
        have hw3' := hw3.symm
        subst hw3'
        clear hw3
        go_wp2_with fail
        refine HC3.out.mono ?_; rintro e w3 ⟨rfl, hw3⟩
        have hw3' := hw3.symm
        subst hw3'
        clear hw3
        cases hc1 : decide (r ∈ cyc) with
        | true =>
          have HT3 := Lib.hid (HT2.out (by rw [HW.out, hc1]; rfl))
          go_wp2_with fail
          go_roundw
          case rel => exact ⟨i + 1, by omega, by go_num, HT3, HB1⟩
          case measure => simp [RowKit.intOf]; omega
        | false =>
          cases hc2 : decide (r ∈ told) with
          | true =>
            have HT3 := Lib.hid (HT2.out (by rw [HW.out, hc1, hc2]; rfl))
            go_wp2_with fail
            go_roundw
            case rel => exact ⟨i + 1, by omega, by go_num, HT3, HB1⟩
            case measure => simp [RowKit.intOf]; omega
          | false =>
            have HE2 := Lib.hid (HE.out (by rw [HW.out, hc1, hc2]; rfl))
            have HBz := Lib.hid (HBw.out _ HB1.out)
            go_wp2_with fail
            go_ret
            exact ⟨by rw [HE2.out]; rfl, HBz.out⟩
    · have hii : i = rd.length := by omega
      subst hii
      have ht := HT.out
      rw [List.take_length] at ht
      have HE : Hid (rdyB l cyc told rd = true) := Lib.hid (by
        unfold rdyB
        rw [List.all_eq_true]
        intro r hr
        rw [ht r hr]; rfl)
      have HBz := Lib.hid (HBa.out.trans (HB.out.mono HBa.out.size))
      clear ht
      go_wp2_with fail
      go_ret
      exact ⟨by rw [HE.out]; rfl, HBz.out⟩
end Go.Proofs.Ytbppkflgokfjhaa
namespace Go.Proofs.Ytbppkflgokfjhaa
open Go.RowKit
set_option maxHeartbeats 40000000 in
set_option maxRecDepth 10000 in
theorem gorder_any (N : Nat) (hN : N = 1024) (l : List LkM) (hk : OkK (lkS l)) (hd : DisL (lkS l)) (A : Option Addr) (ca : Nat) (w : World) {P : Nat → Prop} (hl : RowL w P A l) (hll : l.length ≤ 100000) (hrl : ∀ q ∈ l, q.rd.length ≤ 1000000) :
    Calls Try.prog 16 #[.slice A l.length ca] w fun e w' => GRow w (ordG (lkS l) N) e w' := by
  obtain ⟨i0, hi0, hz0, hz1, hz2⟩ := info_parts gint_info
  have HNo := Lib.hid (gnodes_any N hN l A ca w hl (by omega))
  have HCy := Lib.hid (fun (w1 : World) (hb : Below w.heap.size w w1) => gcyclic_any N hN l hk A ca w1 (hl.below hb) hll hrl)
  have HFd := Lib.hid (fun (w1 : World) (hb : Below w.heap.size w w1) (n : Int) => gfind_any l A ca w1 (hl.below hb) (by omega) n)
  have HRw := Lib.hid (fun (q : LkM) (hq : q ∈ l) => (show RowI w P q.RA q.rd from by
    obtain ⟨i, hi⟩ := List.mem_iff_getElem?.1 hq
    obtain ⟨g, o, _, _, _, hat⟩ := hl.at (List.getElem?_eq_some_iff.1 hi).1
    exact (hat i q hi).2))
  have HL := Lib.hid (fun (w1 : World) (hb : Below w.heap.size w w1) => hl.below hb)
  have HRl := Lib.hid hrl
  have HLF : Hid (∀ told i n, (nodesG (lkS l) N)[i]? = some n → (∀ m ∈ (nodesG (lkS l) N).take i, ¬ rdyN (lkS l) told m) → rdyN (lkS l) told n → leastN (rdyN (lkS l) told) N = some n) := Lib.hid (by
    subst hN
    exact fun told i n h1 h2 h3 => least_first hk (rdy_node (told := told)) h1 h2 h3)
  have HLN : Hid (∀ told, (∀ m ∈ nodesG (lkS l) N, ¬ rdyN (lkS l) told m) → leastN (rdyN (lkS l) told) N = none) := Lib.hid (by
    subst hN
    exact fun told h => least_nothing hk (rdy_node (told := told)) h)
  have HNm : Hid (∀ n ∈ nodesG (lkS l) N, isN (lkS l) n) := Lib.hid fun n hn => (upto_mem.1 hn).2.2
  have HCm : Hid (∀ n, n ∈ cycG (lkS l) N ↔ cycN (lkS l) n) := Lib.hid (by subst hN; exact fun n => cycG_mem hk)
  have HTl := Lib.hid (fun told (h : Told (lkS l) told) => told_len hk h)
  have HRd := Lib.hid (fun told n x (h : findL (lkS l) n = some x) => rdy_iff hd (told := told) h)
  have hNl : (nodesG (lkS l) N).length ≤ 1024 := by have := upto_len (isN (lkS l)) N; unfold nodesG; omega
  have hCl : (cycG (lkS l) N).length ≤ 1024 := by have := upto_len (cycN (lkS l)) N; unfold cycG; omega
  have HOr : Hid (ordF (lkS l) N 1025 [] = ordG (lkS l) N) := Lib.hid (by unfold ordG; rw [hN])
  clear hl hN hrl hk hd
  generalize nodesG (lkS l) N = NS at *
  generalize cycG (lkS l) N = CS at *
  generalize ordG (lkS l) N = OG at *
  unfold GRow at HNo HCy
  go_enter Try.func16, Try.ntmps16
  go_wp2_with fail
  refine HNo.out.mono ?_; rintro e w1 ⟨O1, c1, rfl, hc1, hr1, hb1⟩
  have HB1 := Lib.hid hb1
  have HR1 := Lib.hid hr1
  have HC1 := Lib.hid (HCy.out w1 hb1)
  clear hc1 hr1 hb1 HNo HCy
  go_wp2_with fail
  refine HC1.out.mono ?_; rintro e w2 ⟨O2, c2, rfl, hc2, hr2, hb2⟩
  have HB2 := Lib.hid (HB1.out.trans (hb2.mono HB1.out.size))
  have HR12 := Lib.hid (HR1.out.below hb2)
  have HR2 := Lib.hid hr2
  clear hc2 hr2 hb2 HC1 HR1
  go_wp2_with fail
  go_loopg [5, 6] (hgM 1024 0 true) (fun gk vf vm wr => ∃ (told : List Int) (b : Bool), vm = .bool b ∧ gk = hgM 1024 told.length b ∧ Hid (OwnR 3 1 inW w2.heap.size wr vf told) ∧ Hid (Told (lkS l) told) ∧ Hid (∃ k, k + told.length = 1025 ∧ ordF (lkS l) N k told = OG) ∧ Hid (b = false → leastN (rdyN (lkS l) told) N = none) ∧ Hid (Below w2.heap.size w2 wr))
  case atStart => exact ⟨[], true, rfl, rfl, Lib.hid (World.ownsRow_nil _ _ _ _), Lib.hid (Told.nil _), Lib.hid ⟨1025, rfl, HOr.out⟩, Lib.hid (fun h => by cases h), Lib.hid (Below.refl _ _)⟩
  case round =>
    obtain ⟨told, b, rfl, hgk, HO, HT, HF, HE, HB⟩ := hrel
    have HGk := Lib.hid hgk
    have htl := HTl.out told HT.out
    clear hgk
    cases b with
    | false =>
      have HOt : Hid (told = OG) := Lib.hid (by
        obtain ⟨k, _, h2⟩ := HF.out
        rw [← h2, ordF_none (HE.out rfl)])
      obtain ⟨F, cF, hv, hcF, hrF⟩ := own_rowG HO.out
      subst hv
      have HR := Lib.hid (hrF.mono (Q := fun g => w.heap.size ≤ g) fun g hg _ => Nat.le_trans HB2.out.size hg)
      have HBz := Lib.hid (HB2.out.trans (HB.out.mono HB2.out.size))
      clear hrF HO HF HE
      go_wp2_with fail
      go_ret
      rw [← HOt.out]
      exact ⟨F, cF, rfl, hcF, HR.out, HBz.out⟩
    | true =>
      clear HE
      obtain ⟨wo, rfl⟩ : ∃ wo : World, wo = wr := ⟨wr, rfl⟩
      go_wp2_with fail
      go_loopw [5, 6, 7] (fun vf vm vi wx => ∃ (i : Nat) (td : List Int) (b : Bool), i ≤ NS.length ∧ vi = .int .i64 (i : Int) ∧ vm = .bool b ∧ Hid (OwnR 3 1 inW w2.heap.size wx vf td) ∧ Hid (b = false → td = told ∧ ∀ m ∈ NS.take i, ¬ rdyN (lkS l) told m) ∧ Hid (b = true → ∃ n, leastN (rdyN (lkS l) told) N = some n ∧ td = told ++ [n]) ∧ Hid (Below w2.heap.size w2 wx)) (fun _ _ vi _ => NS.length - (RowKit.intOf vi).toNat)
      case atStart => exact ⟨0, told, false, Nat.zero_le _, rfl, rfl, HO, Lib.hid (fun _ => ⟨rfl, fun m hm => by simp at hm⟩), Lib.hid (fun h => by cases h), HB⟩
      case round =>
        clear HO HB
        obtain ⟨i, td, b, hi, rfl, rfl, HO, HNot, HYes, HB⟩ := hrel
        have hbs := HB.out.size
        cases b with
        | true =>
          obtain ⟨n, hn, htd⟩ := HYes.out rfl
          subst htd
          have HT2 := Lib.hid (HT.out.next (least_some hn).2.2)
          have HF2 : Hid (∃ k, k + (told ++ [n]).length = 1025 ∧ ordF (lkS l) N k (told ++ [n]) = OG) := Lib.hid (by
            obtain ⟨k, h1, h2⟩ := HF.out
            obtain ⟨j, rfl⟩ : ∃ j, k = j + 1 := ⟨k - 1, by omega⟩
            rw [ordF_some hn] at h2
            exact ⟨j, by rw [List.length_append, List.length_singleton]; omega, h2⟩)
          have hm : hgM 1024 (told ++ [n]).length true < gk := by
            have h1 := HGk.out
            have h2 := HTl.out _ HT2.out
            rw [List.length_append, List.length_singleton] at h2 ⊢
            unfold hgM at h1 ⊢
            simp at h1 ⊢
            omega
          have HM := Lib.hid hm
          generalize told ++ [n] = TD at *
          clear hm hn HNot HYes HT HF
          by_cases hlt : i < NS.length
          · have hI : (i : Int) < (NS.length : Int) := by omega
            go_wp2_with fail
            go_roundg (hgM 1024 TD.length true)
            case rel => exact ⟨TD, true, rfl, rfl, HO, HT2, HF2, Lib.hid (fun h => by cases h), HB⟩
            case measure => exact HM.out
          · have hI : ¬ (i : Int) < (NS.length : Int) := by omega
            go_wp2_with fail
            go_roundg (hgM 1024 TD.length true)
            case rel => exact ⟨TD, true, rfl, rfl, HO, HT2, HF2, Lib.hid (fun h => by cases h), HB⟩
            case measure => exact HM.out
        | false =>
          obtain ⟨htd, hno⟩ := HNot.out rfl
          subst htd
          have HNt := Lib.hid hno
          clear hno HNot HYes
          by_cases hlt : i < NS.length
          · obtain ⟨n, hn⟩ : ∃ n, NS[i]? = some n := ⟨_, List.getElem?_eq_getElem hlt⟩
            obtain ⟨g, o, rfl, _, hgl, hat⟩ := HR12.out.at hlt
            have q0 := hat i n hn
            have k0 := keep_cell HB.out q0
            have hI : (i : Int) < (NS.length : Int) := by omega
            have hJ : (0 : Int) ≤ (i : Int) := by omega
            have hnn := HNm.out n (List.mem_of_getElem? hn)
            obtain ⟨q, hq⟩ : ∃ q, findM l n = some q := Option.isSome_iff_exists.1 ((findM_node l n).2 hnn)
            obtain ⟨hqm, hqn⟩ := findM_mem hq
            have hql := HRl.out q hqm
            have HRq := Lib.hid (HRw.out q hqm)
            have HIf := Lib.hid (HRd.out td n q.k (by rw [← findM_k, hq]; rfl))
            have HRX := Lib.hid (rdyB_iff (l := l) (cyc := CS) (told := td) (rd := q.rd) (an := q.at_) HCm.out)
            have HLs := Lib.hid (fun h => HLF.out td i n hn HNt.out h)
            have HNx : Hid (¬ rdyN (lkS l) td n → ∀ m ∈ NS.take (i + 1), ¬ rdyN (lkS l) td m) := Lib.hid fun hh m hm => by
              rw [List.take_add_one, hn] at hm
              rcases List.mem_append.1 hm with e | e
              · exact HNt.out m e
              · obtain rfl : m = n := by simpa using e
                exact hh
            obtain ⟨F, cF, hv, hcF, hrF⟩ := own_rowG HO.out
            subst hv
            have HRF := Lib.hid hrF
            have HBw := Lib.hid (fun (w3 : World) (hb : Below w2.heap.size w2 w3) => HB2.out.trans (hb.mono HB2.out.size))
            have HCf := Lib.hid (HFd.out wr (HBw.out wr HB.out) n)
            rw [hq] at HCf
            obtain ⟨an, rd, RA, rc⟩ := q
            obtain rfl : an = n := hqn
            have HRX : Hid (rdyB l CS td rd = true ↔ rdyX (lkS l) td ⟨an, rd⟩) := HRX
            have HIf : Hid (rdyN (lkS l) td an ↔ ¬ cycN (lkS l) an ∧ an ∉ td ∧ rdyX (lkS l) td ⟨an, rd⟩) := HIf
            unfold fndV at HCf
            clear hat q0 hn hq hqm hnn hrF HNt
            go_wp2_with fail
            refine HCf.out.mono ?_; rintro e w3 ⟨rfl, hb3⟩
            have hB3 := (HB.out.trans (hb3.mono HB.out.size)).alloc (by have := HB.out.size; have := hb3.size; omega) (.cells #[.int .i64 an, .slice RA rd.length rc] 51)
            have hbA : Below wr.heap.size wr (w3.alloc (.cells #[.int .i64 an, .slice RA rd.length rc] 51)) := hb3.alloc hb3.size _
            have y0 : (w3.alloc (.cells #[.int .i64 an, .slice RA rd.length rc] 51)).cell? ⟨w3.heap.size, 0, none⟩ = some (.int .i64 an) := by rw [Lib.cell_of_heap (heap_alloc_new w3 _)]; rfl
            have y1 : (w3.alloc (.cells #[.int .i64 an, .slice RA rd.length rc] 51)).cell? ⟨w3.heap.size, 1, none⟩ = some (.slice RA rd.length rc) := by rw [Lib.cell_of_heap (heap_alloc_new w3 _)]; rfl
            have hzy : w3.heap.size < (w3.alloc (.cells #[.int .i64 an, .slice RA rd.length rc] 51)).heap.size := by simp
            have k1 := keep_cell hbA k0
            have HB3 := Lib.hid hB3
            have HBA := Lib.hid hbA
            have HO3 := Lib.hid (HO.out.below hbA)
            have HRF3 := Lib.hid (HRF.out.below hbA)
            have HH1 := Lib.hid (ghas_any CS O2 c2 _ (HR2.out.below hB3) (by omega) an)
            have HH2 := Lib.hid (ghas_any td F cF _ HRF3.out (by omega) an)
            have HRy := Lib.hid (gready_any l A ca ⟨an, rd, RA, rc⟩ CS td O2 F c2 cF _ (HL.out _ (HBw.out _ hB3)) (HRq.out.below (HBw.out _ hB3)) (HR2.out.below hB3) HRF3.out (by omega) hql (by omega) (by omega))
            clear hb3 hB3 hbA HCf k0 HBA
            go_wp2_with fail
            generalize w3.alloc (.cells #[.int .i64 an, .slice RA rd.length rc] 51) = w4 at *
            refine HH1.out.mono ?_; rintro e w5 ⟨rfl, hw5⟩
            have hw5' := hw5.symm
            subst hw5'
            clear hw5
            go_wp2_with fail
            refine HH2.out.mono ?_; rintro e w5 ⟨rfl, hw5⟩
            have hw5' := hw5.symm
            subst hw5'
            clear hw5
            go_wp2_with fail
            refine HRy.out.mono ?_; rintro e w5 ⟨rfl, hb5⟩
            have HB5 := Lib.hid (HB3.out.trans (hb5.mono HB3.out.size))
            have HO5 := Lib.hid (HO3.out.below hb5)
            have k2 := keep_cell hb5 k1
            have hcs := HCm.out an
            clear hb5 k1 y0 y1 HH1 HH2 HRy
            have key : (decide (an ∈ CS) = false ∧ decide (an ∈ td) = false ∧ rdyB l CS td rd = true) ↔ rdyN (lkS l) td an := by
              rw [HIf.out, HRX.out, decide_eq_false_iff_not, decide_eq_false_iff_not, hcs]
            have HKey := Lib.hid key
            clear key hcs
            cases hd1 : decide (an ∈ CS) with
            | true =>
              have HNx2 := Lib.hid (HNx.out (fun h => by have := (HKey.out.2 h).1; rw [hd1] at this; cases this))
              go_wp2_with fail
              go_roundw
              case rel => exact ⟨i + 1, td, false, by omega, by go_num, rfl, HO5, Lib.hid (fun _ => ⟨rfl, HNx2.out⟩), Lib.hid (fun h => by cases h), HB5⟩
              case measure => simp [RowKit.intOf]; omega
            | false =>
              cases hd2 : decide (an ∈ td) with
              | true =>
                have HNx2 := Lib.hid (HNx.out (fun h => by have := (HKey.out.2 h).2.1; rw [hd2] at this; cases this))
                go_wp2_with fail
                go_roundw
                case rel => exact ⟨i + 1, td, false, by omega, by go_num, rfl, HO5, Lib.hid (fun _ => ⟨rfl, HNx2.out⟩), Lib.hid (fun h => by cases h), HB5⟩
                case measure => simp [RowKit.intOf]; omega
              | false =>
                cases hd3 : rdyB l CS td rd with
                | false =>
                  have HNx2 := Lib.hid (HNx.out (fun h => by have := (HKey.out.2 h).2.2; rw [hd3] at this; cases this))
                  go_wp2_with fail
                  go_roundw
                  case rel => exact ⟨i + 1, td, false, by omega, by go_num, rfl, HO5, Lib.hid (fun _ => ⟨rfl, HNx2.out⟩), Lib.hid (fun h => by cases h), HB5⟩
                  case measure => simp [RowKit.intOf]; omega
                | true =>
                  have HLs2 := Lib.hid (HLs.out (HKey.out.1 ⟨hd1, hd2, hd3⟩))
                  have hs5 := HB5.out.size
                  go_wp2_with (at_builtin; refine of_stop ?_)
                  refine stop_of ?_
                  have b0 : Below w2.heap.size w5 (w5.alloc (.cells #[.int .i64 an] 3)) := (Below.refl _ _).alloc hs5 _
                  refine wpList_append_rows (f := inW) (n := 1) (E := 3) (nb := 8) (X := td) (base := w2.heap.size) rfl _ _ rfl rfl (OwnR.below HO5.out ((Below.refl _ _).alloc (Nat.le_refl _) _)) (L2 := [an]) rfl (one_row w5 an) (by simp) (N := td.length + 1) rfl (Z := td ++ [an]) rfl Try.underlying23 hi0 hz0 hz1 hz2 rfl (by decide) (by decide) (fun _ => rfl) inW_one (by omega) (by simp; omega) ?_
                  intro g4 k4 w6 ho4 hg4 hat4 hl4
                  have hb4 : Below w2.heap.size w5 w6 := Below.grown b0 hg4 (by simp; omega) (fun k hk => (World.ownsRow.lt HO5.out k hk).1)
                  have HO6 := Lib.hid ho4
                  have HB6 := Lib.hid (HB5.out.trans hb4)
                  clear ho4 hg4 hat4 hl4 hb4 b0
                  go_wp2_with fail
                  go_roundw
                  case rel => exact ⟨i + 1, td ++ [an], true, by omega, by go_num, rfl, HO6, Lib.hid (fun h => by cases h), Lib.hid (fun _ => ⟨an, HLs2.out, rfl⟩), HB6⟩
                  case measure => simp [RowKit.intOf]; omega
          · have hii : i = NS.length := by omega
            subst hii
            have hno := HNt.out
            rw [List.take_length] at hno
            have HE2 := Lib.hid (HLN.out td hno)
            have hm : hgM 1024 td.length false < gk := by
              have h1 := HGk.out
              unfold hgM at h1 ⊢
              simp at h1 ⊢
              omega
            have HM := Lib.hid hm
            clear hm hno HNt
            go_wp2_with fail
            go_roundg (hgM 1024 td.length false)
            case rel => exact ⟨td, false, rfl, rfl, HO, HT, HF, Lib.hid (fun _ => HE2.out), HB⟩
            case measure => exact HM.out
end Go.Proofs.Ytbppkflgokfjhaa
namespace Go.Proofs.Ytbppkflgokfjhaa
open Go.RowKit
theorem takes_next {α : Type} {a b : List α} {i : Nat} {x y : α} (ha : a[i]? = some x) (hb : b[i]? = some y) (h : a.take i = b.take i) (e : x = y) : a.take (i + 1) = b.take (i + 1) := by
  rw [List.take_add_one, List.take_add_one, ha, hb, h, e]
theorem takes_no {α : Type} {a b : List α} {i : Nat} {x y : α} (ha : a[i]? = some x) (hb : b[i]? = some y) (e : x ≠ y) : a ≠ b := fun h => by
  rw [h, hb] at ha; exact e (Option.some.inj ha).symm
set_option maxHeartbeats 2000000 in
set_option maxRecDepth 10000 in
theorem rInts_any (a b : List Int) (A B : Option Addr) (ca cb : Nat) (w : World) (P Q : Nat → Prop) (hA : RowI w P A a) (hB : RowI w Q B b) (hla : a.length ≤ maxLen) :
    Calls Try.prog 10 #[.slice A a.length ca, .slice B b.length cb] w fun e w' => e = .returned (.bool (decide (a = b))) ∧ Below w.heap.size w w' := by
  have HA := Lib.hid hA
  have HB := Lib.hid hB
  unfold maxLen at hla
  clear hA hB
  by_cases hl : a.length = b.length
  · have HLL := Lib.hid hl
    have hd : ((a.length : Int) != (b.length : Int)) = false := by rw [hl]; simp
    clear hl
    go_enter Try.func10, Try.ntmps10
    go_wp2_with fail
    go_loopw [5] (fun vi wr => ∃ i : Nat, i ≤ a.length ∧ vi = .int .i64 (i : Int) ∧ Hid (a.take i = b.take i) ∧ Below w.heap.size w wr) (fun vi _ => a.length - (RowKit.intOf vi).toNat)
    case atStart => exact ⟨0, Nat.zero_le _, rfl, Lib.hid rfl, Below.refl _ _⟩
    case round =>
      obtain ⟨i, hi, rfl, HT, hb⟩ := hrel
      by_cases hlt : i < a.length
      · have hlt2 : i < b.length := HLL.out ▸ hlt
        obtain ⟨g, o, rfl, _, _, hca⟩ := HA.out.at hlt
        obtain ⟨g2, o2, rfl, _, _, hcb⟩ := HB.out.at hlt2
        obtain ⟨x, hx⟩ : ∃ x, a[i]? = some x := ⟨_, List.getElem?_eq_getElem hlt⟩
        obtain ⟨y, hy⟩ : ∃ y, b[i]? = some y := ⟨_, List.getElem?_eq_getElem hlt2⟩
        have q0 := keep_cell hb (hca i x hx)
        have q1 := keep_cell hb (hcb i y hy)
        by_cases hxy : x = y
        · have HN := Lib.hid (takes_next hx hy HT.out hxy)
          subst hxy
          clear hx hy hca hcb
          go_wp2_with fail
          try go_quiet (fail)
          try go_wp2_with fail
          go_roundw
          case rel => exact ⟨i + 1, by omega, by go_num, HN, by first | exact hb | exact below_drewN hb _⟩
          case measure => simp [RowKit.intOf]; omega
        · have HN := Lib.hid (takes_no hx hy hxy)
          have hd2 : (x != y) = true := by simpa using hxy
          clear hx hy hca hcb
          go_wp2_with fail
          try go_quiet (fail)
          try go_wp2_with fail
          go_ret
          exact ⟨by rw [decide_eq_false HN.out]; rfl, by first | exact hb | exact below_drewN hb _⟩
      · have hii : i = a.length := by omega
        subst hii
        have hz := HT.out
        rw [List.take_length, HLL.out, List.take_length] at hz
        have HZ := Lib.hid hz
        clear hz
        go_wp2_with fail
        go_ret
        exact ⟨by rw [decide_eq_true HZ.out]; rfl, hb⟩
  · have hd : ((a.length : Int) != (b.length : Int)) = true := by simp; omega
    have HN : Hid (a ≠ b) := Lib.hid fun h => hl (by rw [h])
    clear hl
    go_enter Try.func10, Try.ntmps10
    go_wp2_with fail
    go_ret
    exact ⟨by rw [decide_eq_false HN.out]; rfl, Below.refl _ _⟩
end Go.Proofs.Ytbppkflgokfjhaa
