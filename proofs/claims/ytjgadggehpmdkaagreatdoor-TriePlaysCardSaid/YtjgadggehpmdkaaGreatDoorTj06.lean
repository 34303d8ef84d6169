/- Texts joined: NdNm, NdN, NdMk, NdM, NdOk, NdOb, NdO, NdPk, NdP. -/
import Derived.Test.YtjgadggehpmdkaaGreatDoorTj02
import Derived.Test.YtjgadggehpmdkaaGreatDoorTj05
import Derived.Test.YtjgadggehpmdkaaGreatDoorTj03
set_option linter.all false
namespace Go.Proofs.YtjgadggehpmdkaaGreatDoor
open Go.RowKit
theorem RowN.at {w : World} {P : Nat → Prop} {A : Option Addr} {l : List Nd} (h : RowN w P A l) {i : Nat} (hi : i < l.length) : ∃ g o, A = some ⟨g, o, none⟩ ∧ P g ∧ g < w.heap.size ∧
    ∀ (i : Nat) (n : Nd), l[i]? = some n → ∃ B cb C cc, At4 w g (o + i * 4) n B cb C cc ∧ RowI w P B n.refs ∧ RowI w P C n.nums := by
  rcases h with rfl | h
  · simp at hi
  · exact h
end Go.Proofs.YtjgadggehpmdkaaGreatDoor
namespace Go.Proofs.YtjgadggehpmdkaaGreatDoor
open Go.RowKit
section
variable {w w' : World} {P : Nat → Prop} {m gN cN gB cB room : Nat} {nds : List Nd} {bs : List Bool}
set_option maxHeartbeats 8000000 in
set_option maxRecDepth 10000 in
theorem rwrong_any (h : RM w P m gN cN gB cB room nds bs) (l : List Nd) (Q : Nat → Prop) (A : Option Addr) (ca : Nat) (hl : RowN w Q A l) (hll : l.length ≤ 1000000) (hlr : ∀ n ∈ l, n.refs.length ≤ 1000000) :
    Calls Tryz.prog 45 #[.pointer (some ⟨m, 0, none⟩), .slice A l.length ca] w fun e w' => e = .returned (.bool (wrongF (stOf nds bs) 0 l)) ∧ w' = w := by
  have HR := Lib.hid h
  have HL := Lib.hid hl
  have HLr := Lib.hid hlr
  clear h hl hlr
  go_enter Tryz.func45, Tryz.ntmps45
  go_wp2_with fail
  go_loopw [5, 6, 7, 8] (fun vi _ _ _ wr => ∃ i : Nat, i ≤ l.length ∧ vi = .int .i64 (i : Int) ∧ Hid (wrongF (stOf nds bs) 0 l = wrongF (stOf nds bs) i (l.drop i)) ∧ wr = w) (fun vi _ _ _ _ => l.length - (RowKit.intOf vi).toNat)
  case atStart => exact ⟨0, Nat.zero_le _, rfl, Lib.hid (by rw [List.drop_zero]), rfl⟩
  case round =>
    obtain ⟨i, hi, rfl, HT, rfl⟩ := hrel
    by_cases hlt : i < l.length
    · obtain ⟨g, o, rfl, _, _, hat⟩ := HL.out.at hlt
      obtain ⟨n, hn⟩ : ∃ n, l[i]? = some n := ⟨_, List.getElem?_eq_getElem hlt⟩
      obtain ⟨B, cb, C, cc, ⟨_, q1, _, _⟩, hB, _⟩ := hat i n hn
      have hnr := HLr.out n (List.mem_of_getElem? hn)
      have HB := Lib.hid hB
      have Hn := Lib.hid hn
      clear hat hn hB
      go_wp2_with fail
      go_loopw [6, 7, 8] (fun vk _ _ wr2 => ∃ k : Nat, k ≤ n.refs.length ∧ vk = .int .i64 (k : Int) ∧ Hid ((n.refs.take k).all (okRef (stOf nds bs) i) = true) ∧ wr2 = wr) (fun vk _ _ _ => n.refs.length - (RowKit.intOf vk).toNat)
      case atStart => exact ⟨0, Nat.zero_le _, rfl, Lib.hid (by rw [List.take_zero]; rfl), rfl⟩
      case round =>
        obtain ⟨k, hk, rfl, HA, rfl⟩ := hrel
        by_cases hkl : k < n.refs.length
        · obtain ⟨g2, o2, rfl, _, _, hc⟩ := HB.out.at hkl
          obtain ⟨r, hr⟩ : ∃ r, n.refs[k]? = some r := ⟨_, List.getElem?_eq_getElem hkl⟩
          have q2 := hc k r hr
          have HH := Lib.hid (rHas_any HR.out r)
          have HO := Lib.hid (okRef_not (stOf nds bs) i r)
          have HY := Lib.hid (fun h => all_next hr HA.out h)
          have HN := Lib.hid (fun h => HT.out.trans (wrong_yes Hn.out hr h))
          have hwi : IntKind.i64.wrap (-(i : Int)) = -(i : Int) := by rw [IntKind.wrap_i64]; omega
          clear hc hr
          generalize live (stOf nds bs) r = V at *
          generalize okRef (stOf nds bs) i r = O at *
          go_wp2_with fail
          refine HH.out.mono ?_; rintro e w2 ⟨rfl, rfl⟩
          cases hp : decide (0 < r)
          · cases hm : decide (r < -(i : Int))
            · rw [hp, hm] at HO
              have HY2 := Lib.hid (HY.out (by rw [HO.out]; rfl))
              clear HO HY HN
              go_wp2_with fail
              go_roundw
              case rel => exact ⟨k + 1, by omega, by go_num, HY2, trivial⟩
              case measure => simp [RowKit.intOf]; omega
            · rw [hp, hm] at HO
              have HN2 := Lib.hid (HN.out (by rw [HO.out]; simp))
              clear HO HY HN
              go_wp2_with fail
              go_ret
              exact ⟨by rw [HN2.out]; rfl, rfl⟩
          · have hm : decide (r < -(i : Int)) = false := decide_eq_false (by have := of_decide_eq_true hp; omega)
            cases V
            · rw [hp, hm] at HO
              have HN2 := Lib.hid (HN.out (by rw [HO.out]; rfl))
              clear HO HY HN
              go_wp2_with fail
              go_ret
              exact ⟨by rw [HN2.out]; rfl, rfl⟩
            · rw [hp, hm] at HO
              have HY2 := Lib.hid (HY.out (by rw [HO.out]; rfl))
              clear HO HY HN
              go_wp2_with fail
              go_roundw
              case rel => exact ⟨k + 1, by omega, by go_num, HY2, trivial⟩
              case measure => simp [RowKit.intOf]; omega
        · have hkk : k = n.refs.length := by omega
          subst hkk
          have HA2 := HA.out
          rw [List.take_length] at HA2
          have HN := Lib.hid (HT.out.trans (wrong_next Hn.out HA2))
          clear HA2
          go_wp2_with fail
          go_roundw
          case rel => exact ⟨i + 1, by omega, by go_num, HN, trivial⟩
          case measure => simp [RowKit.intOf]; omega
    · have hii : i = l.length := by omega
      subst hii
      have HZ : Hid (wrongF (stOf nds bs) 0 l = false) := Lib.hid (by have := HT.out; rw [List.drop_length, wrongF] at this; exact this)
      go_wp2_with fail
      go_ret
      exact ⟨by rw [HZ.out]; rfl, rfl⟩
end
end Go.Proofs.YtjgadggehpmdkaaGreatDoor
namespace Go.Proofs.YtjgadggehpmdkaaGreatDoor
open Go.RowKit
def getN (s : Sh) (h : Int) : Nd := (ndAt s h).getD nd0
def getE (s : Sh) (h : Int) : Int := if live s h = true then 0 else 4
end Go.Proofs.YtjgadggehpmdkaaGreatDoor
namespace Go.Proofs.YtjgadggehpmdkaaGreatDoor
open Go.RowKit
section
variable {w w' : World} {P : Nat → Prop} {m gN cN gB cB room : Nat} {nds : List Nd} {bs : List Bool}
set_option maxHeartbeats 8000000 in
set_option maxRecDepth 10000 in
theorem rGet_any (h : RM w P m gN cN gB cB room nds bs) (r : Int) :
    Calls Tryz.prog 56 #[.pointer (some ⟨m, 0, none⟩), .int .i64 r] w fun e w' => ∃ A ca B cb, e = .returned (.tuple #[ndV (getN (stOf nds bs) r) A ca B cb, .int .i64 (getE (stOf nds bs) r)]) ∧ RowI w' P A (getN (stOf nds bs) r).refs ∧ RowI w' P B (getN (stOf nds bs) r).nums ∧ Below w.heap.size w w' := by
  have hlen := h.len
  have HR := Lib.hid h
  have HH := Lib.hid (fun w' (hb : Below w.heap.size w w') => rHas_any (h.below hb) r)
  have hE : Hid (getE (stOf nds bs) r = if live (stOf nds bs) r = true then 0 else 4) := Lib.hid rfl
  have hz : w.heap.size ≠ m := by have := h.lM; omega
  have zm := h.lM
  cases hv : live (stOf nds bs) r with
  | false =>
    have hN : getN (stOf nds bs) r = nd0 := by unfold getN; unfold live at hv; cases e : ndAt (stOf nds bs) r with | none => rfl | some x => rw [e] at hv; cases hv
    rw [hN]
    rw [hv] at hE HH
    have HE := Lib.hid (hE.out.trans (if_neg (by decide)))
    clear h hN hv hE hlen
    go_enter Tryz.func56, Tryz.ntmps56
    go_wp2_with fail
    refine (HH.out _ ((Below.refl _ _).alloc (Nat.le_refl _) _)).mono ?_; rintro e w1 ⟨rfl, rfl⟩
    go_wp2_with fail
    exact bodyPost_ret (v := .tuple #[ndV nd0 none 0 none 0, .int .i64 4]) (by simp [results, Tryz.results56, go_sem, ndV, nd0]) rfl ⟨_, _, _, _, by rw [HE.out], .inl rfl, .inl rfl, by first | exact (Below.refl _ _).alloc (Nat.le_refl _) _ | exact ((((((Below.refl _ _).alloc (Nat.le_refl _) _).setCell (Nat.le_refl _) _).setCell (Nat.le_refl _) _).setCell (Nat.le_refl _) _).setCell (Nat.le_refl _) _)⟩
  | true =>
    have hb := live_bound hv
    obtain ⟨i, rfl⟩ : ∃ i : Nat, r = (i : Int) := ⟨r.toNat, by omega⟩
    rw [st_len hlen] at hb
    have hbi := (st_live hlen i (by omega)).1 hv
    obtain ⟨n, hn⟩ : ∃ n, nds[i]? = some n := ⟨_, List.getElem?_eq_getElem (by omega)⟩
    have hN : getN (stOf nds bs) (i : Int) = n := by unfold getN; rw [st_ndAt hlen i (by omega), if_pos hbi, hn]; rfl
    rw [hN]
    rw [hv] at hE HH
    have HE := Lib.hid (hE.out.trans (if_pos rfl))
    obtain ⟨B, cb, C, cc, ⟨q0, q1, q2, q3⟩, hB, hC⟩ := h.rows i n hn
    have HB := Lib.hid (hB.mono (Q := P) fun g hg _ => hg.1)
    have HC := Lib.hid (hC.mono (Q := P) fun g hg _ => hg.1)
    have c1 := h.c1
    have zN := h.lN
    have hI : (i : Int) < (nds.length : Int) := by omega
    clear h hN hv hE hlen hb hbi hn hB hC
    go_enter Tryz.func56, Tryz.ntmps56
    go_wp2_with fail
    refine (HH.out _ ((Below.refl _ _).alloc (Nat.le_refl _) _)).mono ?_; rintro e w1 ⟨rfl, rfl⟩
    go_wp2_with fail
    exact bodyPost_ret (v := .tuple #[ndV n B cb C cc, .int .i64 0]) (by simp [results, Tryz.results56, go_sem, ndV]) rfl ⟨_, _, _, _, by rw [HE.out], HB.out.below ((Below.refl _ _).alloc (Nat.le_refl _) _), HC.out.below ((Below.refl _ _).alloc (Nat.le_refl _) _), (Below.refl _ _).alloc (Nat.le_refl _) _⟩
set_option maxHeartbeats 8000000 in
set_option maxRecDepth 10000 in
theorem rLive_any (h : RM w P m gN cN gB cB room nds bs) :
    Calls Tryz.prog 19 #[.pointer (some ⟨m, 0, none⟩)] w fun e w' => ∃ A ca, e = .returned (.slice A (liveA (stOf nds bs)).length ca) ∧ RowI w' (fun g => w.heap.size ≤ g) A (liveA (stOf nds bs)) ∧ Below w.heap.size w w' := by
  obtain ⟨i0, hi0, hz0, hz1, hz2⟩ := info_parts int_info
  have HR := Lib.hid h
  have HLv := Lib.hid (st_liveA h.len)
  have hone := h.one
  have hcap := h.cap
  have hsm := h.small
  generalize liveA (stOf nds bs) = LV at *
  have HDa := Lib.hid (fun i : Nat => show (bs.drop 1)[i]? = bs[i + 1]? by rw [List.getElem?_drop, Nat.add_comm 1 i])
  have HDl : Hid ((bs.drop 1).length = bs.length - 1) := Lib.hid List.length_drop
  generalize bs.drop 1 = D at *
  clear h
  go_enter Tryz.func19, Tryz.ntmps19
  go_wp2_with fail
  go_loopw [3, 4] (fun v vi wr => ∃ i : Nat, i + 1 ≤ bs.length ∧ vi = .int .i64 ((i : Int) + 1) ∧ Hid (OwnR 3 1 inW w.heap.size wr v (tru 1 (D.take i))) ∧ Below w.heap.size w wr) (fun _ vi _ => bs.length - (RowKit.intOf vi).toNat)
  case atStart => exact ⟨0, by omega, rfl, Lib.hid (by rw [List.take_zero]; exact World.ownsRow_nil _ _ _ _), Below.refl _ _⟩
  case round =>
    obtain ⟨i, hi, rfl, HO, hb⟩ := hrel
    have hr := HR.out.below hb
    have c2 := hr.c2
    by_cases hlt : i + 1 < bs.length
    · obtain ⟨b, hbb⟩ : ∃ b, bs[i + 1]? = some b := ⟨_, List.getElem?_eq_getElem hlt⟩
      have q0 := hr.bits _ _ hbb
      have HT := Lib.hid (tru_take (l := D) (i := i) (b := b) ((HDa.out i).trans hbb) 1)
      have hlT : (tru 1 (D.take i)).length ≤ 65536 := by
        have := tru_len (D.take i) 1
        rw [List.length_take] at this
        omega
      clear hbb hr
      cases b with
      | false =>
        have HT2 : Hid (tru 1 (D.take (i + 1)) = tru 1 (D.take i)) := Lib.hid (by rw [HT.out]; simp)
        go_wp2_with fail
        go_roundw
        case rel => exact ⟨i + 1, by omega, by go_num, by rw [HT2.out]; exact HO, hb⟩
        case measure => simp [RowKit.intOf]; omega
      | true =>
        have HT2 : Hid (tru 1 (D.take i) ++ [(i : Int) + 1] = tru 1 (D.take (i + 1))) := Lib.hid (by rw [HT.out, Int.add_comm]; rfl)
        have hbs := hb.size
        go_wp2_with (at_builtin; refine of_stop ?_)
        refine stop_of ?_
        refine wpList_append_rows (f := inW) (n := 1) (E := 3) (nb := 8) (X := tru 1 (D.take i)) (base := w.heap.size) rfl _ _ rfl rfl (OwnR.below HO.out ((Below.refl _ _).alloc (Nat.le_refl _) _)) (L2 := [(i : Int) + 1]) rfl (one_row wr ((i : Int) + 1)) (by simp) (N := (tru 1 (D.take i)).length + 1) rfl (Z := tru 1 (D.take (i + 1))) HT2.out Tryz.underlying32 hi0 hz0 hz1 hz2 rfl (by decide) (by decide) (fun _ => rfl) inW_one (by omega) (by simp; omega) ?_
        intro g2 k2 w2 ho2 hg2 hat2 hl2
        have hb2 : Below w.heap.size w w2 := (hb.alloc hbs _).grown hg2 (by simp; omega) (fun k hk => (World.ownsRow.lt HO.out k hk).1)
        have HO2 := Lib.hid ho2
        clear ho2 hg2 hat2 hl2
        go_wp2_with fail
        go_roundw
        case rel => exact ⟨i + 1, by omega, by go_num, HO2, hb2⟩
        case measure => simp [RowKit.intOf]; omega
    · have hii : i = bs.length - 1 := by omega
      have HO2 : Hid (OwnR 3 1 inW w.heap.size wr _ LV) := Lib.hid (by rw [HLv.out]; have := HO.out; rwa [hii, List.take_of_length_le (by rw [HDl.out]; omega)] at this)
      obtain ⟨A, cap, rfl, hA⟩ := own_rowI HO2.out
      go_wp2_with fail
      go_ret
      exact ⟨A, cap, rfl, hA, hb⟩
end
end Go.Proofs.YtjgadggehpmdkaaGreatDoor
namespace Go.Proofs.YtjgadggehpmdkaaGreatDoor
open Go.RowKit
theorem okRef_low {s : Sh} {i : Nat} {r : Int} (h : okRef s i r = true) : -(i : Int) ≤ r := by
  unfold okRef at h
  simp only [Bool.or_eq_true, decide_eq_true_eq, Bool.and_eq_true] at h
  rcases h with (h | h) | h
  · omega
  · have := (live_bound h).1; omega
  · exact h.2
end Go.Proofs.YtjgadggehpmdkaaGreatDoor
namespace Go.Proofs.YtjgadggehpmdkaaGreatDoor
open Go.RowKit
theorem OwnR.block {α : Type} {E : TypeId} {n : Nat} {f : α → List Value} {base : Nat} {w w' : World} {v : Value} {L : List α} (h : OwnR E n f base w v L) (hb : ∀ k, v.ownBlock = some k → w'.heap[k]? = w.heap[k]?) : OwnR E n f base w' v L := by
  obtain ⟨h1, h2⟩ := h
  refine ⟨h1, ?_⟩
  rcases h2 with h2 | ⟨g, cap, cur, hv, hbs, hg, rest⟩
  · exact .inl h2
  · exact .inr ⟨g, cap, cur, hv, hbs, (hb g (by rw [hv]; rfl)).trans hg, rest⟩
end Go.Proofs.YtjgadggehpmdkaaGreatDoor
namespace Go.Proofs.YtjgadggehpmdkaaGreatDoor
open Go.RowKit
theorem wrong_refs {s : Sh} : ∀ {l : List Nd} {i0 i : Nat} {n : Nd}, wrongF s i0 l = false → l[i]? = some n → n.refs.all (okRef s (i0 + i)) = true
  | [], _, i, n, _, hi => by simp at hi
  | m :: l, i0, 0, n, hw, hi => by
    obtain rfl : m = n := by simpa using hi
    rw [wrongF] at hw
    simp only [Bool.or_eq_false_iff, Bool.not_eq_false'] at hw
    exact hw.1
  | m :: l, i0, i + 1, n, hw, hi => by
    rw [wrongF] at hw
    simp only [Bool.or_eq_false_iff] at hw
    have := wrong_refs hw.2 (show l[i]? = some n by simpa using hi)
    rwa [show i0 + 1 + i = i0 + (i + 1) by omega] at this
section
variable {w w' : World} {P Q : Nat → Prop} {m gN cN gB cB room : Nat} {nds : List Nd} {bs : List Bool}
theorem RM.tight (h : RM w P m gN cN gB cB room nds bs) : RM w (fun g => P g ∧ g < w.heap.size) m gN cN gB cB room nds bs :=
  { h with
    pM := ⟨h.pM, h.lM⟩
    pN := ⟨h.pN, h.lN⟩
    pB := ⟨h.pB, h.lB⟩
    rows := fun i n hi => by
      obtain ⟨B, cb, C, cc, h4, hr, hn⟩ := h.rows i n hi
      exact ⟨B, cb, C, cc, h4, hr.mono fun g hg hl => ⟨⟨hg.1, hl⟩, hg.2⟩, hn.mono fun g hg hl => ⟨⟨hg.1, hl⟩, hg.2⟩⟩ }
theorem RM.cut {nds1 : List Nd} {bs1 : List Bool} (h : RM w P m gN cN gB cB room nds1 bs1) {gW kW : Nat} (hl : bs.length ≤ bs1.length) (h1 : 1 ≤ bs.length) (hW : AtR boV 1 w gW 0 bs) (hF : ∀ j, w.frozen? ⟨gW, j, none⟩ = false) (hP : ¬ P gW) (hlt : gW < w.heap.size) :
    RM ((w.setCell ⟨m, 2, none⟩ (.slice (some ⟨gW, 0, none⟩) bs.length kW)).setCell ⟨m, 1, none⟩ (.slice (some ⟨gN, 0, none⟩) bs.length cN)) (fun g => P g ∨ g = gW) m gN cN gW kW room (nds1.take bs.length) bs := by
  have hlen := h.len
  have hm : m ≠ gW := fun e => hP (e ▸ h.pM)
  have hN : gN ≠ gW := fun e => hP (e ▸ h.pN)
  have hmc := (h.mc.set2 (.slice (some ⟨gW, 0, none⟩) bs.length kW)).set1 (.slice (some ⟨gN, 0, none⟩) bs.length cN)
  have hbut : ButS (fun g => g = m) w ((w.setCell ⟨m, 2, none⟩ (.slice (some ⟨gW, 0, none⟩) bs.length kW)).setCell ⟨m, 1, none⟩ (.slice (some ⟨gN, 0, none⟩) bs.length cN)) := ((ButS.refl (fun g => g = m) w).setCell (p := ⟨m, 2, none⟩) (.inl rfl) _).setCell (p := ⟨m, 1, none⟩) (.inl rfl) _
  have hfr : ∀ p, ((w.setCell ⟨m, 2, none⟩ (.slice (some ⟨gW, 0, none⟩) bs.length kW)).setCell ⟨m, 1, none⟩ (.slice (some ⟨gN, 0, none⟩) bs.length cN)).frozen? p = w.frozen? p := fun p => by rw [World.frozen?_setCell, World.frozen?_setCell]
  have e1 : (nds1.take bs.length).length = bs.length := by rw [List.length_take]; omega
  have hnM : gN ≠ m := h.nMN.symm
  have hkI : ∀ (A : Option Addr) (l : List Int), RowI w (fun g => P g ∧ g ≠ m ∧ g ≠ gN ∧ g ≠ gB) A l → RowI ((w.setCell ⟨m, 2, none⟩ (.slice (some ⟨gW, 0, none⟩) bs.length kW)).setCell ⟨m, 1, none⟩ (.slice (some ⟨gN, 0, none⟩) bs.length cN)) (fun g => (P g ∨ g = gW) ∧ g ≠ m ∧ g ≠ gN ∧ g ≠ gW) A l := fun A l hR =>
    (hR.mono (Q := fun g => (P g ∨ g = gW) ∧ g ≠ m ∧ g ≠ gN ∧ g ≠ gW) fun g hg _ => ⟨.inl hg.1, hg.2.1, hg.2.2.1, fun e => hP (e ▸ hg.1)⟩).kept (hbut.keptQ fun g hg => hg.2.1)
  refine ⟨hmc.c0, by rw [e1]; exact hmc.c1, hmc.c2, hmc.fM, fun j => by rw [hfr]; exact h.fN j, fun j => by rw [hfr]; exact hF j, .inl h.pM, .inl h.pN, .inr rfl, h.nMN, hm, hN, Nat.lt_of_lt_of_le h.lN hbut.size, Nat.lt_of_lt_of_le hlt hbut.size, fun i n hi => ?_, fun i b hi => hbut.cell (by exact hm.symm) (bits_atR hW i b hi), e1, h1, by have := h.cap; omega, h.small, fun n hn => h.wide n (List.mem_of_mem_take hn), by rw [e1]; have := h.room'; omega⟩
  rw [List.getElem?_take] at hi
  split at hi
  · obtain ⟨B, cb, C, cc, ⟨q0, q1, q2, q3⟩, hR, hN'⟩ := h.rows i n hi
    exact ⟨B, cb, C, cc, ⟨hbut.cell hnM q0, hbut.cell hnM q1, hbut.cell hnM q2, hbut.cell hnM q3⟩, hkI _ _ hR, hkI _ _ hN'⟩
  · cases hi
def PutP (w : World) (P : Nat → Prop) (m room : Nat) (nds : List Nd) (bs : List Bool) (l : List Nd) (e : Ending) (w' : World) : Prop :=
  ∃ O co gN' cN' gB' cB' nds' bs' out c, e = .returned (.tuple #[.slice O out.length co, .int .i64 ((c : Nat) : Int)]) ∧ putA room (stOf nds bs) l = (stOf nds' bs', out, c) ∧ RowI w' (fun g => w.heap.size ≤ g) O out ∧ RM w' (fun g => P g ∨ w.heap.size ≤ g) m gN' cN' gB' cB' room nds' bs' ∧ ButS P w w'
def LPr (w : World) (P : Nat → Prop) (gW : Nat) (v : Value) (g : Nat) : Prop := ((P g ∧ g < w.heap.size) ∨ (w.heap.size ≤ g ∧ g ≠ gW)) ∧ ¬ v.ownBlock = some g
structure LoopP (w wr : World) (P : Nat → Prop) (m room : Nat) (nds : List Nd) (bs : List Bool) (gW b : Nat) (out : List Int) (v : Value) (gN1 cN1 gB1 cB1 : Nat) (nds1 : List Nd) (bs1 : List Bool) : Prop where
  rm : RM wr (LPr w P gW v) m gN1 cN1 gB1 cB1 room nds1 bs1
  grew : Grew nds bs nds1 bs1
  but : ButS P w wr
  own : OwnR 3 1 inW b wr v out
  was : AtR boV 1 wr gW 0 bs
  froz : ∀ j, wr.frozen? ⟨gW, j, none⟩ = false
  loW : w.heap.size ≤ gW
  hiW : gW < b
  size : b ≤ wr.heap.size
theorem LPr.old {w : World} {P : Nat → Prop} {gW g : Nat} {v : Value} (h : LPr w P gW v g) (hl : g < w.heap.size) : P g := by
  rcases h.1 with q | q
  · exact q.1
  · omega
theorem LPr.ne {w : World} {P : Nat → Prop} {gW g : Nat} {v : Value} (h : LPr w P gW v g) (hl : w.heap.size ≤ gW) : gW ≠ g := by
  rcases h.1 with q | q
  · have := q.2; omega
  · exact q.2.symm
section
variable {wr w2 w3 : World} {gW b gN1 cN1 gB1 cB1 : Nat} {out : List Int} {v : Value} {nds1 nds' : List Nd} {bs1 bs' : List Bool} {gN' cN' gB' cB' : Nat}
theorem LoopP.one (h : LoopP w wr P m room nds bs gW b out v gN1 cN1 gB1 cB1 nds1 bs1) (hR : RM w2 (fun g => LPr w P gW v g ∨ wr.heap.size ≤ g) m gN' cN' gB' cB' room nds' bs') (hG : Grew nds1 bs1 nds' bs')
    (hB : ButS (fun g => g = m ∨ g = gN1 ∨ g = gB1) wr w2) : LoopP w w2 P m room nds bs gW b out v gN' cN' gB' cB' nds' bs' := by
  have hs := h.size
  have h4 := h.loW
  have h5 := h.hiW
  have hlt : ∀ k, v.ownBlock = some k → b ≤ k ∧ k < wr.heap.size := fun k hk => World.ownsRow.lt h.own k hk
  have hoff : ∀ k, v.ownBlock = some k → ¬ (k = m ∨ k = gN1 ∨ k = gB1) := fun k hk e => by
    rcases e with rfl | rfl | rfl
    · exact h.rm.pM.2 hk
    · exact h.rm.pN.2 hk
    · exact h.rm.pB.2 hk
  have hWoff : ¬ (gW = m ∨ gW = gN1 ∨ gW = gB1) := fun e => by
    rcases e with e | e | e
    · exact h.rm.pM.ne h4 e
    · exact h.rm.pN.ne h4 e
    · exact h.rm.pB.ne h4 e
  refine ⟨hR.mono fun g hg => ?_, h.grew.trans hG, h.but.trans' hB fun g hg e => ?_, OwnR.block h.own fun k hk => hB.block k (hlt k hk).2 (hoff k hk), fun i q hi j u hj => hB.cell (by exact hWoff) (h.was i q hi j u hj), fun j => hB.frozen (by exact hWoff) (by show gW < _; omega) (h.froz j), h4, h5, Nat.le_trans hs hB.size⟩
  · rcases hg with hg | hg
    · exact hg
    · exact ⟨.inr ⟨by omega, by omega⟩, fun e => by have := (hlt g e).2; omega⟩
  · rcases e with rfl | rfl | rfl
    · exact h.rm.pM.old hg
    · exact h.rm.pN.old hg
    · exact h.rm.pB.old hg
theorem LoopP.app {y : Int} {T : TypeId} {g N k : Nat} {L' : List Int} (h : LoopP w wr P m room nds bs gW b out v gN1 cN1 gB1 cB1 nds1 bs1) (hg : (wr.alloc (.cells #[.int .i64 y] T)).grownBy w3 v.ownBlock) (ho : OwnR 3 1 inW b w3 (.slice (some ⟨g, 0, none⟩) N k) L') (hat : v.ownBlock = some g ∨ g = (wr.alloc (.cells #[.int .i64 y] T)).heap.size) :
    LoopP w w3 P m room nds bs gW b L' (.slice (some ⟨g, 0, none⟩) N k) gN1 cN1 gB1 cB1 nds1 bs1 := by
  have hs := h.size
  have h4 := h.loW
  have h5 := h.hiW
  have hlt : ∀ k, v.ownBlock = some k → b ≤ k ∧ k < wr.heap.size := fun k hk => World.ownsRow.lt h.own k hk
  have hgr : wr.heap.size ≤ w3.heap.size := by have := hg.size; simp at this; omega
  have hbl : ∀ k, k < wr.heap.size → some k ≠ v.ownBlock → w3.heap[k]? = wr.heap[k]? := fun k hk hn => (hg.block k (by simp; omega) hn).trans (Below.heap_alloc wr _ k hk)
  have hbut : ButS (fun k => v.ownBlock = some k) wr w3 := ⟨hg.os, hg.tape, hg.output, hgr, fun k hk hn => hbl k hk fun e => hn e.symm⟩
  have hWo : ¬ v.ownBlock = some gW := fun e => by have := (hlt _ e).1; omega
  have hrm := (h.rm.tight.kept (w' := w3) (hbut.keptQ fun g hg => hg.1.2))
  refine ⟨hrm.mono fun g' hg' => ⟨hg'.1.1, fun e => ?_⟩, h.grew, h.but.trans' hbut fun k hk e => ?_, ho, fun i q hi j u hj => hbut.cell (by exact hWo) (h.was i q hi j u hj), fun j => hbut.frozen (by exact hWo) (by show gW < _; omega) (h.froz j), h4, h5, Nat.le_trans hs hgr⟩
  · have e2 := own_of (g := g) (k := g') rfl e
    rcases hat with q | q
    · exact hg'.1.2 (e2 ▸ q)
    · have := hg'.2; simp at q; omega
  · have := (hlt k e).1; omega
end
end
end Go.Proofs.YtjgadggehpmdkaaGreatDoor
namespace Go.Proofs.YtjgadggehpmdkaaGreatDoor
open Go.RowKit
theorem put_wrong {room : Nat} {s : Sh} {l : List Nd} (h : wrongF s 0 l = true) : putA room s l = (s, [], 1) := by unfold putA; rw [if_pos h]
theorem put_full {room : Nat} {s : Sh} {l : List Nd} (h : wrongF s 0 l = false) (h2 : putL room s [] l = none) : putA room s l = (s, [], 3) := by unfold putA; rw [if_neg (by rw [h]; decide), h2]
theorem put_good {room : Nat} {s s' : Sh} {l : List Nd} {out : List Int} (h : wrongF s 0 l = false) (h2 : putL room s [] l = some (s', out)) : putA room s l = (s', out, 0) := by unfold putA; rw [if_neg (by rw [h]; decide), h2]
theorem putL_next {room : Nat} {s s' : Sh} {l : List Nd} {i : Nat} {n : Nd} {out : List Int} {k : Int} (hi : l[i]? = some n) (h : oneA room s (asPut out n) = some (s', k)) : putL room s out (l.drop i) = putL room s' (out ++ [k]) (l.drop (i + 1)) := by
  obtain ⟨hl, he⟩ := List.getElem?_eq_some_iff.1 hi
  rw [List.drop_eq_getElem_cons hl, putL, he, h]
theorem putL_stop {room : Nat} {s : Sh} {l : List Nd} {i : Nat} {n : Nd} {out : List Int} (hi : l[i]? = some n) (h : oneA room s (asPut out n) = none) : putL room s out (l.drop i) = none := by
  obtain ⟨hl, he⟩ := List.getElem?_eq_some_iff.1 hi
  rw [List.drop_eq_getElem_cons hl, putL, he, h]
end Go.Proofs.YtjgadggehpmdkaaGreatDoor
namespace Go.Proofs.YtjgadggehpmdkaaGreatDoor
open Go.RowKit
section
variable {w w' : World} {P Q : Nat → Prop} {m gN cN gB cB room : Nat} {nds : List Nd} {bs : List Bool}
set_option maxHeartbeats 16000000 in
set_option maxRecDepth 10000 in
theorem rPut_any (h : RM w P m gN cN gB cB room nds bs) (l : List Nd) (A : Option Addr) (ca : Nat) (hl : RowN w Q A l) (hQP : ∀ g, Q g → ¬ P g) (hll : l.length ≤ 1000000) (hlr : ∀ n ∈ l, n.refs.length ≤ 1000000 ∧ n.nums.length ≤ 1000000) :
    Calls Tryz.prog 24 #[.pointer (some ⟨m, 0, none⟩), .slice A l.length ca] w fun e w' => PutP w P m room nds bs l e w' := by
  obtain ⟨i0, hi0, hz0, hz1, hz2⟩ := info_parts int_info
  obtain ⟨i1, hi1, hy0, hy1, hy2⟩ := info_parts bool_info
  have HR := Lib.hid h
  have HL := Lib.hid hl
  have HQ := Lib.hid hQP
  have HLr := Lib.hid hlr
  have HWr := Lib.hid (rwrong_any h l Q A ca hl hll (fun n hn => (hlr n hn).1))
  have hone := h.one
  have hcap := h.cap
  have hsm := h.small
  have hlM := h.lM
  clear h hl hQP hlr
  cases hwf : wrongF (stOf nds bs) 0 l with
  | true =>
    have HP := Lib.hid (put_wrong (room := room) hwf)
    rw [hwf] at HWr
    clear hwf
    go_enter Tryz.func24, Tryz.ntmps24
    go_wp2_with fail
    refine HWr.out.mono ?_; rintro e w1 ⟨rfl, rfl⟩
    go_wp2_with fail
    go_ret2
    exact ⟨none, 0, gN, cN, gB, cB, nds, bs, [], 1, rfl, HP.out, .inl rfl, HR.out.mono fun _ h => .inl h, ButS.refl _ _⟩
  | false =>
    have HWf := Lib.hid hwf
    rw [hwf] at HWr
    have c2 := HR.out.c2
    have HB1 := Lib.hid (atR_bits HR.out.bits)
    have HBB : Hid (Below w.heap.size w (w.alloc (.cells #[] 4))) := Lib.hid ((Below.refl _ _).alloc (Nat.le_refl _) _)
    clear hwf
    go_enter Tryz.func24, Tryz.ntmps24
    go_wp2_with fail
    refine HWr.out.mono ?_; rintro e w1 ⟨rfl, rfl⟩
    go_wp2_with (at_builtin; refine of_stop ?_)
    refine stop_of ?_
    refine wpList_append_rows (f := boV) (n := 1) (E := 4) (nb := 1) (X := ([] : List Bool)) (base := w1.heap.size) rfl _ _ rfl rfl (own_lit0 w1 w1.heap.size (Nat.le_refl _)) (L2 := bs) rfl (fun i b hi j u hj => keep_cell HBB.out (HB1.out i b hi j u hj)) (by omega) (N := bs.length) (by simp) (Z := bs) rfl Tryz.underlying77 hi1 hy0 hy1 hy2 rfl (by decide) (by decide) (fun _ => rfl) boV_one (by omega) (by simp) ?_
    intro gW kW w2 ho2 hg2 hat2 hl2
    have hzW : w1.heap.size ≤ gW := by rcases hat2 with e | e; exact Nat.le_of_eq (own_of (g := w1.heap.size) rfl e).symm; simp at e; omega
    have hb2 : Below w1.heap.size w1 w2 := HBB.out.grown hg2 (by simp) (fun k hk => by have := own_of (g := w1.heap.size) rfl hk; omega)
    have hLP0 : LoopP w1 w2 P m room nds bs gW w2.heap.size [] (.slice none 0 0) gN cN gB cB nds bs :=
      ⟨((HR.out.tight).below hb2).mono fun g hg => ⟨.inl hg, fun e => by cases e⟩, Grew.refl _ _, ButS.of_below hb2, World.ownsRow_nil _ _ _ _, OwnR.at (fun _ => rfl) ho2 rfl, World.ownsRow.frozenAt ho2, hzW, hl2, Nat.le_refl _⟩
    have HLP := Lib.hid hLP0
    clear hLP0 ho2 hg2 hat2 c2
    go_wp2_with fail
    go_loopw [8, 9, 10, 11] (fun v vi _ _ wr => ∃ (i : Nat) (out : List Int) (gN1 cN1 gB1 cB1 : Nat) (nds1 : List Nd) (bs1 : List Bool), i ≤ l.length ∧ vi = .int .i64 (i : Int) ∧ Hid (putL room (stOf nds bs) [] l = putL room (stOf nds1 bs1) out (l.drop i)) ∧ Hid (out.length = i) ∧ Hid (LoopP w1 wr P m room nds bs gW w2.heap.size out v gN1 cN1 gB1 cB1 nds1 bs1)) (fun _ vi _ _ _ => l.length - (RowKit.intOf vi).toNat)
    case atStart => exact ⟨0, [], gN, cN, gB, cB, nds, bs, Nat.zero_le _, rfl, Lib.hid (by rw [List.drop_zero]), Lib.hid rfl, HLP⟩
    case round =>
      obtain ⟨i, out, gN1, cN1, gB1, cB1, nds1, bs1, hi, rfl, HT, Hol, HLp⟩ := hrel
      obtain ⟨O, co, hv, hO⟩ := own_rowI HLp.out.own
      by_cases hlt : i < l.length
      · obtain ⟨n, hn⟩ : ∃ n, l[i]? = some n := ⟨_, List.getElem?_eq_getElem hlt⟩
        obtain ⟨g, o, rfl, _, _, hat⟩ := (HL.out.kept (HLp.out.but.keptQ HQ.out)).at hlt
        obtain ⟨B, cb, C, cc, ⟨q0, q1, q2, q3⟩, hB, hC⟩ := hat i n hn
        have hwd := HLr.out n (List.mem_of_getElem? hn)
        have hrf : ∀ r ∈ n.refs, -(out.length : Int) ≤ r := fun r hr => by
          have := List.all_eq_true.1 (wrong_refs HWf.out hn) r hr
          rw [Hol.out]
          rw [Nat.zero_add] at this
          exact okRef_low this
        have HO := Lib.hid (rone_any HLp.out.rm n (fun _ => True) B C cb cc (hB.mono fun _ _ _ => trivial) (hC.mono fun _ _ _ => trivial) hwd.2 hwd.1 out O co (hO.mono fun _ _ _ => trivial) (by rw [Hol.out]; omega) hrf)
        have HNx := Lib.hid (fun k s' => putL_next (room := room) (s := stOf nds1 bs1) (out := out) (k := k) (s' := s') hn)
        have HSt := Lib.hid (putL_stop (room := room) (s := stOf nds1 bs1) (out := out) hn)
        have Hhv := Lib.hid hv
        unfold ndV at HO
        subst hv
        clear hat hB hC hO hrf hn hwd
        go_wp2_with fail
        refine HO.out.mono ?_; rintro e w3 hone1
        rcases hone1 with ⟨k, gN2, cN2, gB2, cB2, nds2, bs2, h1, rfl, hR2, hG2, hbut, _, _⟩ | ⟨h1, rfl, hb3⟩
        · have HL3 := Lib.hid (HLp.out.one hR2 hG2 hbut)
          have HT3 := Lib.hid (HT.out.trans (HNx.out k _ h1))
          clear h1 hR2 hG2 hbut HO
          have hsz3 := HL3.out.size
          go_wp2_with (at_builtin; refine of_stop ?_)
          refine stop_of ?_
          refine wpList_append_rows (f := inW) (n := 1) (E := 3) (nb := 8) (X := out) (base := w2.heap.size) rfl _ _ rfl rfl (OwnR.below HL3.out.own ((Below.refl _ _).alloc (Nat.le_refl _) _)) (L2 := [k]) rfl (one_row w3 k) (by simp) (N := i + 1) (by rw [Hol.out]; rfl) (Z := out ++ [k]) rfl Tryz.underlying32 hi0 hz0 hz1 hz2 rfl (by decide) (by decide) (fun _ => rfl) inW_one (by omega) (by simp; omega) ?_
          intro g4 k4 w4 ho4 hg4 hat4 hl4
          have HL4 := Lib.hid (HL3.out.app hg4 ho4 hat4)
          clear ho4 hg4 hat4 hl4
          go_wp2_with fail
          go_roundw
          case rel => exact ⟨i + 1, out ++ [k], gN2, cN2, gB2, cB2, nds2, bs2, by omega, by go_num, HT3, Lib.hid (by rw [List.length_append, Hol.out]; rfl), HL4⟩
          case measure => simp [RowKit.intOf]; omega
        · have HT3 := Lib.hid (HT.out.trans (HSt.out h1))
          have hR3 := HLp.out.rm.below hb3
          have HR3 := Lib.hid hR3
          have c1 := hR3.c1
          have f1 := hR3.fM 1
          have f2 := hR3.fM 2
          have hc2 := hR3.c2
          have hk := hR3.room'
          have hgl := HLp.out.grew.len
          have hln := hR3.len
          have Hb3 := Lib.hid hb3
          have hbk : bs.length ≤ cN1 := by omega
          have zm := hR3.lM
          clear hR3 h1 hb3 HO
          go_wp2_with fail
          go_ret2
          have hst : stOf (nds1.take bs.length) bs = stOf nds bs := st_ext HR.out.len (by rw [List.length_take]; omega) fun j hj => by
            have hjl := (List.getElem?_eq_some_iff.1 hj).1
            rw [List.getElem?_take, if_pos hjl]
            exact (HLp.out.grew.same j hj).2
          have hWl : ¬ LPr w1 P gW (.slice O out.length co) gW := fun e => (e.ne HLp.out.loW) rfl
          have hW3 : AtR boV 1 w3 gW 0 bs := fun i q hi j u hj => keep_cell Hb3.out (HLp.out.was i q hi j u hj)
          have hWlt : gW < w3.heap.size := by have := HLp.out.hiW; have := HLp.out.size; have := Hb3.out.size; omega
          have hWlt2 : gW < _ := Nat.lt_of_lt_of_le HLp.out.hiW HLp.out.size
          have hF3 : ∀ j, w3.frozen? ⟨gW, j, none⟩ = false := fun j => keep_frozen Hb3.out hWlt2 (HLp.out.froz j)
          have hcut := HR3.out.cut (kW := kW) hgl hone hW3 hF3 hWl hWlt
          have hpm := HLp.out.rm.pM
          refine ⟨none, 0, gN1, cN1, gW, kW, nds1.take bs.length, bs, [], 3, rfl, by rw [hst]; exact put_full HWf.out HT3.out, .inl rfl, hcut.mono (fun g hg => ?_), ?_⟩
          · rcases hg with hg | hg
            · rcases hg.1 with q | q
              · exact .inl q.1
              · exact .inr q.1
            · exact .inr (by rw [hg]; exact HLp.out.loW)
          · exact ((HLp.out.but.trans (ButS.of_below Hb3.out)).setCell (p := ⟨m, 2, none⟩) (.inl (hpm.old hlM)) _).setCell (p := ⟨m, 1, none⟩) (.inl (hpm.old hlM)) _
      · have hii : i = l.length := by omega
        subst hii
        have HP := Lib.hid (put_good HWf.out (by have := HT.out; rw [List.drop_length, putL] at this; exact this))
        have HOr := Lib.hid hO
        subst hv
        clear hO
        go_wp2_with fail
        go_ret2
        exact ⟨O, co, gN1, cN1, gB1, cB1, nds1, bs1, out, 0, rfl, HP.out, HOr.out.mono (fun g hg _ => by have := HLp.out.loW; have := HLp.out.hiW; omega), HLp.out.rm.mono (fun g hg => by rcases hg.1 with q | q; exact .inl q.1; exact .inr q.1), HLp.out.but⟩
end
end Go.Proofs.YtjgadggehpmdkaaGreatDoor
