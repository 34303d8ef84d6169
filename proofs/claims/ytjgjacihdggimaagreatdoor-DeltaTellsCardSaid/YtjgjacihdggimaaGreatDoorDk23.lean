/- Texts joined: TqH, TqB, NfS, NfU. -/
import Derived.Test.YtjgjacihdggimaaGreatDoorDk22
import Derived.Test.YtjgjacihdggimaaGreatDoorDk03
import Derived.Test.YtjgjacihdggimaaGreatDoorDk06
import Derived.Test.YtjgjacihdggimaaGreatDoorDk05
import Derived.Test.YtjgjacihdggimaaGreatDoorDk18
set_option linter.all false
namespace Go.Proofs.YtjgjacihdggimaaGreatDoor
open Go.RowKit
theorem RowN.pre {w : World} {P : Nat → Prop} {A : Option Addr} {l m : List Nd} (h : RowN w P A (l ++ m)) : RowN w P A l := by
  rcases h with h | ⟨g, o, rfl, hp, hl, hc⟩
  · exact .inl (List.append_eq_nil_iff.1 h).1
  · exact .inr ⟨g, o, rfl, hp, hl, fun i n hi => hc i n (by rw [List.getElem?_append_left (List.getElem?_eq_some_iff.1 hi).1]; exact hi)⟩
def StQ (s : Sh) (t : Tr) (h : Int) (w : World) (e : Ending) (w' : World) : Prop := ∃ b, e = .returned (.bool b) ∧ (b = true ↔ At s t h) ∧ Below w.heap.size w w'
theorem StQ.no {s : Sh} {t : Tr} {h : Int} {w w' : World} (hn : ¬ At s t h) (hb : Below w.heap.size w w') : StQ s t h w (.returned (.bool false)) w' := ⟨false, rfl, ⟨fun e => (by cases e), fun e => absurd e hn⟩, hb⟩
theorem StQ.yes {s : Sh} {t : Tr} {h : Int} {w w' : World} (hn : At s t h) (hb : Below w.heap.size w w') : StQ s t h w (.returned (.bool true)) w' := ⟨true, rfl, ⟨fun _ => hn, fun _ => rfl⟩, hb⟩
set_option maxHeartbeats 16000000 in
set_option maxRecDepth 10000 in
theorem pstands_any (n : Nat) : ∀ (t : Tr), szT' t ≤ n → okT t → ∀ {w : World} {B a room : Nat} {s : Sh} {K : Nat → Prop}, On9 w B a room s K → ∀ (h : Int), -9223372036854775808 ≤ h ∧ h ≤ 9223372036854775807 → ∀ (out : List Nd) {A : Option Addr} {ca : Nat} {Q : Nat → Prop}, RowN w Q A (fl t out) → (fl t out).length ≤ ca → (fl t out).length ≤ 1000000 →
    Calls Tryz.prog 65 #[.pointer (some ⟨a, 0, none⟩), .int .i64 h, .slice A (fl t out).length ca] w fun e w' => StQ s t h w e w' := by
  induction n with
  | zero => intro t ht; cases t; rw [szT'] at ht; omega
  | succ n ih =>
    rintro ⟨k, nums, text, kids⟩ hsz hok w B a room s K hA h hh out A ca Q hL hca hlen
    rw [szT'] at hsz
    rw [okT] at hok
    have HAG := Lib.hid (at_get (s := s) hok.1 nums text kids h)
    have HGt := Lib.hid (o9Get hA h hh)
    have hfl : fl (.mk k nums text kids) out = (flL kids out []).1 ++ [⟨k, (flL kids out []).2, nums, text⟩] := by rw [fl]
    have hrl : (flL kids out []).2.length = kids.length := by
      obtain ⟨m, e, hm⟩ := flL_refs kids out []
      rw [e, List.nil_append, hm]
    obtain ⟨M, hM⟩ : ∃ M, (flL kids out []).1.length = M := ⟨_, rfl⟩
    have hN : (fl (.mk k nums text kids) out).length = M + 1 := by rw [hfl, List.length_append, hM]; rfl
    obtain ⟨g, o, rfl, hgQ, hgl, hat⟩ := hL.at (i := M) (by omega)
    obtain ⟨CA, cca, CB, ccb, ⟨q0, q1, q2, q3⟩, hCA, hCB⟩ := hat M ⟨k, (flL kids out []).2, nums, text⟩ (by rw [hfl, List.getElem?_append_right (by omega), hM, Nat.sub_self]; rfl)
    have hNR : (getN s h).refs.length ≤ 200 ∧ (getN s h).nums.length ≤ 200 ∧ (∀ x ∈ (getN s h).refs, -9223372036854775808 ≤ x ∧ x ≤ 9223372036854775807) := by
      unfold getN
      cases e : ndAt s h with
      | none => exact ⟨by decide, by decide, fun x hx => (by cases hx)⟩
      | some N =>
        have := hA.fits h N e
        exact ⟨this.1.1, this.1.2.1, this.2.1⟩
    have HNR := Lib.hid hNR.2.2
    have hN1 := hNR.1
    have hN2 := hNR.2.1
    have HA := Lib.hid hA
    have HL := Lib.hid hL
    have HCA := Lib.hid hCA
    have HCB := Lib.hid hCB
    have HFl := Lib.hid hfl
    have HRl := Lib.hid hrl
    have HOk := Lib.hid hok.2
    have HK0 := Lib.hid hok.1
    rw [hN] at hca hlen ⊢
    have hi1 : ((M + 1 : Nat) : Int) - 1 = (M : Int) := by omega
    have hMI : (M : Int) < ((M + 1 : Nat) : Int) := by omega
    have hM0 : (0 : Int) ≤ (M : Int) := by omega
    generalize hLen : M + 1 = N1 at *
    have hne : ((N1 : Int) == 0) = false := by rw [beq_eq_false_iff_ne]; omega
    have hbs := HA.out.base
    unfold ndV at HGt
    rw [hrl] at q1
    clear hA hL hat hfl hok hNR hCA hCB hrl
    go_enter Tryz.func65, Tryz.ntmps65
    go_wp2_with fail
    refine HGt.out.mono ?_; rintro e w1 ⟨A1, ca1, B1, cb1, rfl, hr1, hr2, hb1⟩
    have HR1 := Lib.hid hr1
    have HR2 := Lib.hid hr2
    have Hb1 := Lib.hid hb1
    have k0 := keep_cell hb1 q0
    have k1 := keep_cell hb1 q1
    have k2 := keep_cell hb1 q2
    have k3 := keep_cell hb1 q3
    have hgl1 : g < w1.heap.size := Nat.lt_of_lt_of_le hgl hb1.size
    clear hr1 hr2 hb1 q0 q1 q2 q3 HGt
    generalize hNk : getN s h = N at *
    have hbZ : Below w.heap.size w ((w1.alloc (.cells #[.int .i64 N.kind, .slice A1 N.refs.length ca1, .slice B1 N.nums.length cb1, .string ⟨N.text.toArray⟩] 126)).alloc (.cells #[.int .i64 k, .slice CA kids.length cca, .slice CB nums.length ccb, .string ⟨text.toArray⟩] 126)) := (Hb1.out.alloc Hb1.out.size _).alloc (by have := Hb1.out.size; simp; omega) _
    have hb12 : Below w1.heap.size w1 ((w1.alloc (.cells #[.int .i64 N.kind, .slice A1 N.refs.length ca1, .slice B1 N.nums.length cb1, .string ⟨N.text.toArray⟩] 126)).alloc (.cells #[.int .i64 k, .slice CA kids.length cca, .slice CB nums.length ccb, .string ⟨text.toArray⟩] 126)) := ((Below.refl _ _).alloc (Nat.le_refl _) _).alloc (by simp) _
    have HEq := Lib.hid (fun w' (hb : Below ((w1.alloc (.cells #[.int .i64 N.kind, .slice A1 N.refs.length ca1, .slice B1 N.nums.length cb1, .string ⟨N.text.toArray⟩] 126)).alloc (.cells #[.int .i64 k, .slice CA kids.length cca, .slice CB nums.length ccb, .string ⟨text.toArray⟩] 126)).heap.size ((w1.alloc (.cells #[.int .i64 N.kind, .slice A1 N.refs.length ca1, .slice B1 N.nums.length cb1, .string ⟨N.text.toArray⟩] 126)).alloc (.cells #[.int .i64 k, .slice CA kids.length cca, .slice CB nums.length ccb, .string ⟨text.toArray⟩] 126)) w') => pequal_any (ca := cb1) (cb := ccb) N.nums nums B1 CB w' _ _ ((HR2.out.below hb12).below hb) (((HCB.out.below Hb1.out).below hb12).below hb) (by unfold maxLen; omega))
    have HbZ := Lib.hid hbZ
    have Hb12 := Lib.hid hb12
    clear hbZ hb12
    by_cases h1 : N.kind = k
    · have d1 : (N.kind != k) = false := by rw [h1]; simp
      by_cases h2 : N.text = text
      · subst h2
        have HN12 := Lib.hid h1
        clear h1
        by_cases h3 : N.nums = nums
        · rw [decide_eq_true h3] at HEq
          by_cases h4 : N.refs.length = kids.length
          · have d4 : ((N.refs.length : Int) != (kids.length : Int)) = false := by rw [h4]; simp
            have HN34 := Lib.hid (And.intro h3 h4)
            have HN4 := Lib.hid h4
            clear h3 h4
            go_wp2_with fail
            refine (HEq.out _ (Below.refl _ _)).mono ?_; rintro e w3 ⟨rfl, hb3⟩
            have p1 : w3.cell? ⟨w1.heap.size, 1, none⟩ = some (.slice A1 N.refs.length ca1) := by rw [hb3.cell (by simp; omega)]; simp [go_sem]
            have p2 : w3.cell? ⟨w1.heap.size + 1, 1, none⟩ = some (.slice CA kids.length cca) := by rw [hb3.cell (by simp)]; simp [go_sem]
            have z3 : w1.heap.size + 1 < w3.heap.size := by have := hb3.size; simp at this; omega
            have z4 : w1.heap.size < w3.heap.size := by omega
            have HbE := Lib.hid (HbZ.out.trans (hb3.mono HbZ.out.size))
            have HA3 := Lib.hid (HA.out.below HbE.out)
            have HR3 := Lib.hid ((HR1.out.below Hb12.out).below hb3)
            have HCA3 := Lib.hid (((HCA.out.below Hb1.out).below Hb12.out).below hb3)
            have HL3 := Lib.hid (HL.out.below HbE.out)
            clear hb3 HEq k0 k1 k2 k3 HA HR1 HR2 HCA HCB HL Hb1 Hb12 HbZ
            go_wp2_with fail
            go_loopw [61] (fun vi wr => ∃ i : Nat, i ≤ kids.length ∧ vi = .int .i64 (i : Int) ∧ Hid (∀ (j : Nat) (t : Tr) (x : Int), j < i → kids[j]? = some t → N.refs[j]? = some x → At s t x) ∧ Below w3.heap.size w3 wr) (fun vi _ => kids.length - (RowKit.intOf vi).toNat)
            case atStart => exact ⟨0, Nat.zero_le _, rfl, Lib.hid (fun j t x hj => by omega), Below.refl _ _⟩
            case round =>
              obtain ⟨i, hi, rfl, HT, hb⟩ := hrel
              by_cases hlt : i < kids.length
              · obtain ⟨t, ht⟩ : ∃ t, kids[i]? = some t := ⟨_, List.getElem?_eq_getElem hlt⟩
                obtain ⟨x, hx⟩ : ∃ x, N.refs[i]? = some x := ⟨_, List.getElem?_eq_getElem (by rw [HN4.out]; exact hlt)⟩
                obtain ⟨o2, m, hrf, hpre⟩ := flL_at ht out
                have hq2 : (fl t o2).length ≤ M := by have := congrArg List.length hpre; rw [List.length_append] at this; omega
                obtain ⟨gC, oC, hCe, _, hgC, hcC⟩ := HCA3.out.at (i := i) (by rw [HRl.out]; exact hlt)
                obtain ⟨gR, oR, hRe, _, hgR, hcR⟩ := HR3.out.at (i := i) (by rw [HN4.out]; exact hlt)
                have c1 := keep_cell hb (hcC i _ hrf)
                have c2 := keep_cell hb (hcR i _ hx)
                have p3 := keep_cell hb p1
                subst hCe hRe
                have hrow : RowN wr _ (some ⟨g, o, none⟩) (fl t o2) := (RowN.pre (RowN.pre (m := [⟨k, (flL kids out []).2, nums, N.text⟩]) (by have := HL3.out; rw [HFl.out, hpre] at this; exact this))).below hb
                have hxb := HNR.out x (List.mem_of_getElem? hx)
                have hsz1 : szT' t ≤ n := by have := szT_mem (List.mem_of_getElem? ht); omega
                have hC := fun w' (hb' : Below wr.heap.size wr w') => ih t hsz1 (okTL_at HOk.out t (List.mem_of_getElem? ht)) ((HA3.out.below hb).below hb') x hxb o2 (ca := ca) (hrow.below hb') (by omega) (by omega)
                have HNx : Hid (At s t x → ∀ (j : Nat) (t : Tr) (x : Int), j < i + 1 → kids[j]? = some t → N.refs[j]? = some x → At s t x) := Lib.hid fun hat j t' x' hj h1 h2 => by
                  by_cases e : j = i
                  · subst e
                    rw [ht] at h1
                    rw [hx] at h2
                    cases h1
                    cases h2
                    exact hat
                  · exact HT.out j t' x' (by omega) h1 h2
                have HNo : Hid (¬ At s t x → ¬ At s (.mk k nums N.text kids) h) := Lib.hid fun hn e => hn (((atL_iff kids N.refs).1 (HAG.out.1 e).2.2.2).2 i t x ht hx)
                generalize hq : (fl t o2).length = q at *
                have hq0 : (0 : Int) ≤ (q : Int) := by omega
                have hqc : (q : Int) ≤ (ca : Int) := by omega
                have hqn : q ≤ ca := by omega
                have hkI : (i : Int) < (kids.length : Int) := by omega
                have hki0 : (0 : Int) ≤ (i : Int) := by omega
                have hkR : (i : Int) < (N.refs.length : Int) := by rw [HN4.out]; exact hkI
                have zC : gC < wr.heap.size := Lib.lt_of_cell c1
                have zR : gR < wr.heap.size := Lib.lt_of_cell c2
                have zX : w1.heap.size < wr.heap.size := Lib.lt_of_cell p3
                have hqw : IntKind.i64.wrap (q : Int) = (q : Int) := by rw [IntKind.wrap_i64]; omega
                by_cases hat : At s t x
                · have HC := Lib.hid (fun w' hb' => (hC w' hb').mono (R' := fun e w'' => e = .returned (.bool true) ∧ Below w'.heap.size w' w'') fun e w'' ⟨b, he, hbt, hbb⟩ => ⟨by rw [he, hbt.2 hat], hbb⟩)
                  have HNx2 := Lib.hid (HNx.out hat)
                  clear hC hrow hrf hpre hcC hcR ht hx hxb HNx HNo hat
                  go_wp2_with fail
                  go_region_law (first
                    | (go_simp; go_at_call 65
                       refine (HC.out _ (by with_reducible repeat' (first | exact Below.refl _ _ | refine Below.drew ?_))).mono ?_; rintro e w4 ⟨rfl, hb4'⟩
                       have hb4 : Below wr.heap.size wr w4 := by first | exact hb4' | exact (Below.drew (Below.refl wr.heap.size wr)).trans hb4')
                    | fail)
                  all_goals
                    have hb5 := hb.trans (hb4.mono hb.size)
                    clear hb4 hb4' HC c1 c2 p3
                    go_wp2_with fail
                    go_roundw
                    case rel => exact ⟨i + 1, by omega, by go_num, HNx2, hb5⟩
                    case measure => simp [RowKit.intOf]; omega
                · have HC := Lib.hid (fun w' hb' => (hC w' hb').mono (R' := fun e w'' => e = .returned (.bool false) ∧ Below w'.heap.size w' w'') fun e w'' ⟨b, he, hbt, hbb⟩ => ⟨by rw [he, show b = false from by cases b with | false => rfl | true => exact absurd (hbt.1 rfl) hat], hbb⟩)
                  have HNo2 := Lib.hid (HNo.out hat)
                  clear hC hrow hrf hpre hcC hcR ht hx hxb HNx HNo hat
                  go_wp2_with fail
                  go_region_law (first
                    | (go_simp; go_at_call 65
                       refine (HC.out _ (by with_reducible repeat' (first | exact Below.refl _ _ | refine Below.drew ?_))).mono ?_; rintro e w4 ⟨rfl, hb4'⟩
                       have hb4 : Below wr.heap.size wr w4 := by first | exact hb4' | exact (Below.drew (Below.refl wr.heap.size wr)).trans hb4')
                    | fail)
                  all_goals
                    have hb5 := hb.trans (hb4.mono hb.size)
                    clear hb4 hb4' HC c1 c2 p3
                    go_wp2_with fail
                    go_ret
                    exact StQ.no HNo2.out (HbE.out.trans (hb5.mono HbE.out.size))
              · have hii : i = kids.length := by omega
                subst hii
                have HYes : Hid (At s (.mk k nums N.text kids) h) := Lib.hid (HAG.out.2 ⟨HN12.out, (by first | rfl | trivial), HN34.out.1, (atL_iff kids N.refs).2 ⟨HN4.out, fun j t x h1 h2 => HT.out j t x (List.getElem?_eq_some_iff.1 h1).1 h1 h2⟩⟩)
                go_wp2_with fail
                go_ret
                exact StQ.yes HYes.out (HbE.out.trans (hb.mono HbE.out.size))
          · have d4 : ((N.refs.length : Int) != (kids.length : Int)) = true := by rw [bne_iff_ne]; omega
            have HNo : Hid (¬ At s (.mk k nums N.text kids) h) := Lib.hid fun e => h4 (atL_len _ _ (HAG.out.1 e).2.2.2)
            clear h3 h4
            go_wp2_with fail
            refine (HEq.out _ (Below.refl _ _)).mono ?_; rintro e w3 ⟨rfl, hb3⟩
            have p1 : w3.cell? ⟨w1.heap.size, 1, none⟩ = some (.slice A1 N.refs.length ca1) := by rw [hb3.cell (by simp; omega)]; simp [go_sem]
            have p2 : w3.cell? ⟨w1.heap.size + 1, 1, none⟩ = some (.slice CA kids.length cca) := by rw [hb3.cell (by simp)]; simp [go_sem]
            have z3 : w1.heap.size + 1 < w3.heap.size := by have := hb3.size; simp at this; omega
            have z4 : w1.heap.size < w3.heap.size := by omega
            have HbE := Lib.hid (HbZ.out.trans (hb3.mono HbZ.out.size))
            clear hb3
            go_wp2_with fail
            go_ret
            exact StQ.no HNo.out HbE.out
        · rw [decide_eq_false h3] at HEq
          have HNo : Hid (¬ At s (.mk k nums N.text kids) h) := Lib.hid fun e => h3 (HAG.out.1 e).2.2.1
          clear h3
          go_wp2_with fail
          refine (HEq.out _ (Below.refl _ _)).mono ?_; rintro e w3 ⟨rfl, hb3⟩
          have HbE := Lib.hid (HbZ.out.trans (hb3.mono HbZ.out.size))
          clear hb3
          go_wp2_with fail
          go_ret
          exact StQ.no HNo.out HbE.out
      · have HNo : Hid (¬ At s (.mk k nums text kids) h) := Lib.hid fun e => h2 (HAG.out.1 e).2.1
        clear h1
        go_wp2_with fail
        go_ret
        exact StQ.no HNo.out HbZ.out
    · have d1 : (N.kind != k) = true := by rw [bne_iff_ne]; exact h1
      have HNo : Hid (¬ At s (.mk k nums text kids) h) := Lib.hid fun e => h1 (HAG.out.1 e).1
      clear h1
      go_wp2_with fail
      go_ret
      exact StQ.no HNo.out HbZ.out
end Go.Proofs.YtjgjacihdggimaaGreatDoor
namespace Go.Proofs.YtjgjacihdggimaaGreatDoor
open Go.RowKit
theorem pent_info : (Tryz.prog.info? 60).map (fun i => (i.zero, i.size, i.bytes)) = some (some (.agg #[.int .i64 0, .string ⟨#[]⟩]), 2, 24) := by kernel_rfl
theorem entX_len (f : Txs) : ∀ n : Nat, (entX f n).length ≤ n
  | 0 => Nat.le_refl _
  | n + 1 => by
    rw [entX, List.length_append]
    have := entX_len f n
    split <;> simp <;> omega
set_option maxHeartbeats 8000000 in
set_option maxRecDepth 10000 in
theorem pentries_any (f : Txs) (w : World) (B : Nat) (hB : TX w B f) :
    Calls Tryz.prog 48 #[.pointer (some ⟨B, 0, none⟩)] w fun e w' => ∃ O co, e = .returned (.slice O (entX f 1024).length co) ∧ (entX f 1024).length ≤ co ∧ RowE w' (fun g => w.heap.size ≤ g) O (entX f 1024) ∧ Below w.heap.size w w' := by
  obtain ⟨i0, hi0, hz0, hz1, hz2⟩ := info_parts pent_info
  have HB := Lib.hid hB
  have hBl := hB.lt
  clear hB
  go_enter Tryz.func48, Tryz.ntmps48
  go_wp2_with fail
  go_loopw [3, 8] (fun v vi wr => ∃ (i : Nat), i ≤ 1024 ∧ vi = .int .i64 (i : Int) ∧ Hid (OwnR 60 2 enW w.heap.size wr v (entX f i)) ∧ Below w.heap.size w wr) (fun _ vi _ => 1024 - (RowKit.intOf vi).toNat)
  case atStart => exact ⟨0, Nat.zero_le _, rfl, Lib.hid (World.ownsRow_nil _ _ _ _), Below.refl _ _⟩
  case round =>
    obtain ⟨i, hi, rfl, HO, hb⟩ := hrel
    by_cases hlt : i < 1024
    · have q0 := (HB.out.below hb).cell hlt
      have hI : (i : Int) < 1024 := by omega
      have hJ : (0 : Int) ≤ (i : Int) := by omega
      have hbs := hb.size
      have hlen : (entX f i).length ≤ i := entX_len f i
      have HE : Hid (entX f (i + 1) = entX f i ++ if f i = [] then [] else [⟨(i : Int), f i⟩]) := Lib.hid (by rw [entX])
      cases he : (f i).isEmpty with
      | true =>
        have hE := HE.out
        rw [if_pos (List.isEmpty_iff.1 he), List.append_nil] at hE
        rw [← hE] at HO
        go_wp2_with fail
        go_region
        go_wp2_with fail
        go_roundw
        case rel => exact ⟨i + 1, by omega, by go_num, HO, by first | exact hb | exact hb.drew | exact below_drewN hb _⟩
        case measure => simp [RowKit.intOf]; omega
      | false =>
        have hne : f i ≠ [] := fun h => by rw [h] at he; cases he
        have hE := HE.out
        rw [if_neg hne] at hE
        have HE2 := Lib.hid hE
        clear hE
        generalize f i = T at *
        go_wp2_with fail
        go_region
        go_wp2_with (at_builtin; refine of_stop ?_)
        refine stop_of ?_
        have b0 : Below w.heap.size wr (wr.alloc (.cells (enW ⟨(i : Int), T⟩).toArray 60)) := (Below.refl _ _).alloc hbs _
        refine wpList_append_rows (f := enW) (n := 2) (E := 60) (nb := 24) (X := entX f i) (base := w.heap.size) rfl _ _ rfl rfl (OwnR.below HO.out (by first | exact (Below.refl _ _).alloc (Nat.le_refl _) _ | exact ((Below.refl _ _).alloc (Nat.le_refl _) _).drew)) (L2 := [(⟨(i : Int), T⟩ : En)]) rfl (one_row wr (⟨(i : Int), T⟩ : En)) (by simp) (N := (entX f (i + 1)).length) (by rw [HE2.out, List.length_append]) (Z := entX f (i + 1)) HE2.out.symm Tryz.underlying22 hi0 hz0 hz1 hz2 rfl (by decide) (by decide) (fun _ => rfl) enW_one (by rw [HE2.out, List.length_append]; simp; omega) (by simp; omega) ?_
        intro g4 k4 w4 ho4 hg4 hat4 hl4
        have hb4 : Below w.heap.size wr w4 := Below.grown (by first | exact b0 | exact b0.drew) hg4 (by simp; omega) (fun k hk => (World.ownsRow.lt HO.out k hk).1)
        have HO4 := Lib.hid ho4
        have hb5 := hb.trans hb4
        clear ho4 hg4 hat4 hl4 hb4 b0
        go_wp2_with fail
        go_roundw
        case rel => exact ⟨i + 1, by omega, by go_num, HO4, hb5⟩
        case measure => simp [RowKit.intOf]; omega
    · obtain rfl : i = 1024 := by omega
      obtain ⟨O, co, hv, hc, hr⟩ := own_rowE HO.out
      subst hv
      have HR := Lib.hid hr
      clear hr
      go_wp2_with fail
      go_ret
      exact ⟨O, co, rfl, hc, HR.out, hb⟩
end Go.Proofs.YtjgjacihdggimaaGreatDoor
namespace Go.Proofs.YtjgjacihdggimaaGreatDoor
open Go.RowKit Go.Maps
theorem nodup_len : ∀ {S T : List Int}, S.Nodup → (∀ x ∈ S, x ∈ T) → S.length ≤ T.length
  | [], T, _, _ => Nat.zero_le _
  | a :: S, T, h, hs => by
    obtain ⟨h1, h2⟩ := List.nodup_cons.1 h
    have ha := hs a List.mem_cons_self
    have := nodup_len (S := S) (T := T.erase a) h2 fun x hx => (List.mem_erase_of_ne (fun (e : x = a) => h1 (by rw [← e]; exact hx))).2 (hs x (List.mem_cons_of_mem _ hx))
    rw [List.length_erase_of_mem ha] at this
    have hp := List.length_pos_of_mem ha
    rw [List.length_cons]
    omega
theorem boolZero9 (w : World) : (zeroValue 4).run Tryz.prog w = .ok (.bool false) w := by kernel_rfl
theorem int9Keyed : Keyed Tryz.prog 3 := int_keyed Tryz.underlying3
def MapS (w : World) (m : Nat) (S : List Int) : Prop := ∃ D : DataW Unit, w.ownsMap Tryz.prog 3 (plainElem Tryz.prog 4) m (Maps.size D) D ∧ S.Nodup ∧ (∀ x, x ∈ S ↔ has D (.int .i64 x) = true) ∧ ∀ x ∈ S, D.atKey (.int .i64 x) (.lit (.bool false)) = .lit (.bool true)
theorem MapS.block {w w' : World} {m : Nat} {S : List Int} (h : MapS w m S) (hb : w'.heap[m]? = w.heap[m]?) : MapS w' m S := by
  obtain ⟨D, h1, h2⟩ := h
  exact ⟨D, own_block h1 hb, h2⟩
theorem MapS.lt {w : World} {m : Nat} {S : List Int} (h : MapS w m S) : m < w.heap.size := by
  obtain ⟨D, h1, h2⟩ := h
  exact h1.lt
theorem MapS.nd {w : World} {m : Nat} {S : List Int} (h : MapS w m S) : S.Nodup := by
  obtain ⟨D, h1, h2, _⟩ := h
  exact h2
theorem MapS.made (w : World) : MapS (w.alloc (.map #[] 0)) w.heap.size [] :=
  ⟨.map [], World.ownsMap_made w Tryz.prog 3 _, List.nodup_nil, fun x => ⟨fun h => (List.not_mem_nil h).elim, fun h => by cases h⟩, fun x h => (List.not_mem_nil h).elim⟩
def mapSz (w : World) (m : Nat) : Nat := match w.heap[m]? with
  | some (.map es _) => es.size
  | _ => 0
theorem keys_wf {D : DataW Unit} {w : World} {m n : Nat} (h : w.ownsMap Tryz.prog 3 (plainElem Tryz.prog 4) m n D) {S : List Int} (hn : S.Nodup) (hm : ∀ x, x ∈ S ↔ has D (.int .i64 x) = true) : S.Perm (intKeys D) := by
  obtain ⟨es, hD, hpw, _⟩ := h.entries int9Keyed
  obtain ⟨es', hD', hko⟩ := h.keysOf
  obtain rfl : es = es' := by rw [hD] at hD'; simpa using hD'
  subst hD
  exact perm_intKeys hpw (fun p hp => by obtain ⟨v, hv⟩ := hko p hp; obtain ⟨x, _, hx, _⟩ := Maps.keyOf_i64 Tryz.underlying3 hv; exact ⟨x, hx⟩) hn hm
theorem MapS.size {w : World} {m : Nat} {S : List Int} (h : MapS w m S) : mapSz w m = S.length := by
  obtain ⟨D, h1, h2, h3, _⟩ := h
  have hp := (keys_wf h1 h2 h3).length_eq
  obtain ⟨es, clock, hb, F, hs, hD⟩ := h1
  have e : mapSz w m = es.size := by unfold mapSz; rw [hb]
  rw [e, hp, hD]
  show _ = (List.map _ _).length
  rw [List.length_map, length_sorted]; simp
set_option maxRecDepth 100000 in
theorem MapS.look {w : World} {m : Nat} {S : List Int} (h : MapS w m S) {x : Int} (hx : -9223372036854775808 ≤ x ∧ x ≤ 9223372036854775807) :
    (Instr.lookup 117 (.map (some m)) (.int .i64 x) false).run Tryz.prog w = .ok (.bool (decide (x ∈ S))) w := by
  obtain ⟨D, h1, h2, h3, h4⟩ := h
  obtain ⟨v, ps, hrun, hv⟩ := h1.lookup int9Keyed Tryz.underlying117 (boolZero9 w) (zd := .lit (.bool false)) (zp := []) (plainElem_bool Tryz.underlying4 false) (keyOf_int_mk Tryz.underlying3 (wf64' hx))
  rw [hrun]
  have hb : ∀ c : Bool, plainElem (H := Unit) Tryz.prog 4 v = some (.lit (.bool c), ps) → v = .bool c := fun c hc => by
    unfold plainElem at hc
    rw [Tryz.underlying4] at hc
    cases v <;> simp at hc
    rw [hc.1]
  by_cases e : x ∈ S
  · rw [h4 x e] at hv
    rw [hb true hv, decide_eq_true e]
  · have hn : has D (.int .i64 x) = false := by
      cases e' : has D (.int .i64 x) with
      | false => rfl
      | true => exact absurd ((h3 x).2 e') e
    rw [atKey_of_not_has hn] at hv
    rw [hb false hv, decide_eq_false e]
theorem MapS.put {w : World} {m : Nat} {S : List Int} (h : MapS w m S) (hS : S.length < maxLen) {x : Int} (hx : -9223372036854775808 ≤ x ∧ x ≤ 9223372036854775807) (hn : x ∉ S) :
    ∃ w', (Instr.mapUpdate 117 (.map (some m)) (.int .i64 x) (.bool true)).run Tryz.prog w = .ok () w' ∧ MapS w' m (S ++ [x]) ∧ w.grownBy w' (some m) := by
  obtain ⟨D, h1, h2, h3, h4⟩ := h
  have hsz : Maps.size D = S.length := by
    have hp := (keys_wf h1 h2 h3).length_eq
    obtain ⟨es, hD, _⟩ := h1.entries int9Keyed
    rw [hp, hD]
    show es.length = (es.map _).length
    rw [List.length_map]
  have hkey := keyOf_int_mk (P := Tryz.prog) Tryz.underlying3 (wf64' hx)
  obtain ⟨w', hrun, r1, r2⟩ := h1.store int9Keyed Tryz.underlying117 (by omega) hkey (plainElem_bool Tryz.underlying4 true)
  have hk := int9Keyed.key hkey
  refine ⟨w', hrun, ⟨_, own_tight r1, ?_, fun y => ?_, fun y hy => ?_⟩, r2.grown⟩
  · exact List.nodup_append.2 ⟨h2, by simp, fun a ha b hb => by rintro rfl; exact hn (List.mem_singleton.1 hb ▸ ha)⟩
  · by_cases e : y = x
    · subst e
      rw [has_put_same h1.isMap hk]; simp
    · have hne : Lit.int .i64 y ≠ Lit.int .i64 x := fun e' => e (by simpa using e')
      rw [has_put_other hne, ← h3 y]; simp [e]
  · by_cases e : y = x
    · subst e
      exact atKey_put_same h1.isMap hk _ _
    · have hne : Lit.int .i64 y ≠ Lit.int .i64 x := fun e' => e (by simpa using e')
      rw [atKey_put_other hne]
      exact h4 y (by simpa [e] using hy)
structure Rea (t : Sh) (roots : List Int) (S L : List Int) : Prop where
  sS : ∀ x ∈ S, Rch t roots x
  sL : ∀ x ∈ L, live t x = true → Rch t roots x
  cR : ∀ x ∈ roots, live t x = true → x ∈ S ∨ x ∈ L
  cS : ∀ x ∈ S, ∀ n, ndAt t x = some n → ∀ r ∈ n.refs, live t r = true → r ∈ S ∨ r ∈ L
theorem Rea.start (t : Sh) (roots : List Int) : Rea t roots [] roots :=
  ⟨fun x h => (List.not_mem_nil h).elim, fun x h hl => .root x h hl, fun x h _ => .inr h, fun x h => (List.not_mem_nil h).elim⟩
theorem Rea.done {room : Nat} {t : Sh} {roots S : List Int} (h : Rea t roots S []) (hi : Inv room t) (x : Int) : x ∈ S ↔ Rch t roots x := by
  refine ⟨h.sS x, fun hr => ?_⟩
  induction hr with
  | root r hm hl => exact (h.cR r hm hl).resolve_right List.not_mem_nil
  | ref y r n _ hn hm hp ih =>
    rcases hi.shut y n hn r hm with e | e
    · omega
    · exact (h.cS y ih n hn r hm e).resolve_right List.not_mem_nil
theorem Rea.skip {t : Sh} {roots S L : List Int} {x : Int} (h : Rea t roots S (L ++ [x])) (hx : live t x = false ∨ x ∈ S) : Rea t roots S L := by
  have key : ∀ y, live t y = true → y ∈ S ∨ y ∈ L ++ [x] → y ∈ S ∨ y ∈ L := fun y hl hy => by
    rcases hy with hy | hy
    · exact .inl hy
    · rcases List.mem_append.1 hy with hy | hy
      · exact .inr hy
      · rw [List.mem_singleton.1 hy] at hl ⊢
        rcases hx with e | e
        · rw [e] at hl; cases hl
        · exact .inl e
  exact ⟨h.sS, fun y hy hl => h.sL y (List.mem_append_left _ hy) hl, fun y hy hl => key y hl (h.cR y hy hl), fun y hy n hn r hr hl => key r hl (h.cS y hy n hn r hr hl)⟩
theorem Rea.next {t : Sh} {roots S L : List Int} {x : Int} {n : Nd} (h : Rea t roots S (L ++ [x])) (hn : ndAt t x = some n) : Rea t roots (S ++ [x]) (L ++ n.refs) := by
  have hx := h.sL x (by simp) (live_iff.2 ⟨n, hn⟩)
  have key : ∀ y, y ∈ S ∨ y ∈ L ++ [x] → y ∈ S ++ [x] ∨ y ∈ L ++ n.refs := fun y hy => by
    rcases hy with hy | hy
    · exact .inl (List.mem_append_left _ hy)
    · rcases List.mem_append.1 hy with hy | hy
      · exact .inr (List.mem_append_left _ hy)
      · exact .inl (List.mem_append_right _ hy)
  refine ⟨fun y hy => ?_, fun y hy hl => ?_, fun y hy hl => key y (h.cR y hy hl), fun y hy m hm r hr hl => ?_⟩
  · rcases List.mem_append.1 hy with hy | hy
    · exact h.sS y hy
    · rw [List.mem_singleton.1 hy]; exact hx
  · rcases List.mem_append.1 hy with hy | hy
    · exact h.sL y (List.mem_append_left _ hy) hl
    · exact .ref x y n hx hn hy (by have := (live_bound hl).1; omega)
  · rcases List.mem_append.1 hy with hy | hy
    · exact key r (h.cS y hy m hm r hr hl)
    · rw [List.mem_singleton.1 hy, hn] at hm
      cases hm
      exact .inr (List.mem_append_right _ hr)
end Go.Proofs.YtjgjacihdggimaaGreatDoor
namespace Go.Proofs.YtjgjacihdggimaaGreatDoor
open Go.RowKit
theorem run_append_zero {P : Program} (w : World) (t ty e : TypeId) (i : TypeInfo) (ht : P.underlying t = some (.slice e)) (hi : P.info? e = some i) (p : Addr) (n c : Nat) (hn : n ≤ c) (A : Option Addr) (c' : Nat) :
    (Builtin.append_ #[t, t] ty #[.slice (some p) n c, .slice A 0 c']).run P w = .ok (.slice (some p) n c) w := by
  cases A <;> simp [Builtin.append_, run_underlying ht, sizeOf, typeInfo, hi, Builtin.lenOf, Builtin.firstCells, loadCells, loadCellsFrom, storeCells, hn]
theorem wpList_append_zero {P : Program} {w : World} {ops : Array Oper} {rest : List Oper} {o : Oper} {a : Act} {Q : Exit → Act → World → Prop} (hgd : o.guard = none) (s x : Operand) (t : TypeId)
    (ho : o.op = .call { callee := .builtin .append, args := #[s, x], argTypes := #[t, t] }) (e : TypeId) (i : TypeInfo) (ht : P.underlying t = some (.slice e)) (hi : P.info? e = some i) (p : Addr) (n c : Nat) (hn : n ≤ c) (A : Option Addr) (c' : Nat)
    (hs : a.eval s = .slice (some p) n c) (hx : a.eval x = .slice A 0 c') (h : wpList P ops Q rest (a.put o.dst (.slice (some p) n c)) w) : wpList P ops Q (o :: rest) a w := by
  refine wpList_plain hgd fun K' hK' => ?_
  unfold Oper.wp execOp
  simp only [ho, Go.resolve, invoke, builtin, Sem.run_bind, Sem.run_pure, Result.andThen_ok, List.map_toArray, List.map_cons, List.map_nil, hs, hx, run_append_zero w t o.type e i ht hi p n c hn A c']
  exact hK' _ _ h
section
variable {α : Type} {E : TypeId} {n : Nat} {f : α → List Value}
theorem wpList_append_long {S : TypeId} {i0 : TypeInfo} {z : Value} {nb : Nat}
    {w : World} {ops : Array Oper} {rest : List Oper} {o : Oper} {a : Act} {Q : Exit → Act → World → Prop} (hg : o.guard = none) (s x : Operand) (ho : o.op = .call { callee := .builtin .append, args := #[s, x], argTypes := #[S, S] }) {base : Nat} {v : Value} {X : List α}
    (hs : a.eval s = v) (hown : OwnR E n f base w v X) {g2 o2 c2 : Nat} {L2 : List α} (hx : a.eval x = .slice (some ⟨g2, o2, none⟩) L2.length c2) (hL : AtR f n w g2 o2 L2) (h0 : 0 < L2.length) {N : Nat} (hN : X.length + L2.length = N) {Z : List α} (hZ : X ++ L2 = Z)
    (hu : Tryz.prog.underlying S = some (.slice E)) (hi0 : Tryz.prog.info? E = some i0) (hz0 : i0.zero = some z) (hz1 : i0.size = n) (hz2 : i0.bytes = nb) (hzc : z.cells.size = n) (hn0 : 0 < n)
    (hf : ∀ q, (f q).length = n) (h1c : ∀ q, ∀ u ∈ f q, u.oneCell' = true) (hroom : nb * (X.length + L2.length) ≤ 200000000) (hlen : X.length + L2.length ≤ 25000000) (hbase : base ≤ w.heap.size)
    (h : ∀ g cap w', OwnR E n f base w' (.slice (some ⟨g, 0, none⟩) N cap) Z → w.grownBy w' v.ownBlock → (v.ownBlock = some g ∨ g = w.heap.size) → g < w'.heap.size → wpList Tryz.prog ops Q rest (a.put o.dst (.slice (some ⟨g, 0, none⟩) N cap)) w') : wpList Tryz.prog ops Q (o :: rest) a w := by
  subst hN hZ
  refine wpList_append_lies _ hg s x S ho base E i0 z n nb hu hi0 hz0 hz1 hz2 hzc hn0 v X.length (X.flatMap f) hs hown ⟨g2, o2, none⟩ L2.length c2 (L2.flatMap f) hx (flatR_len hf L2) ?_ ?_ h0 (by unfold maxLen; omega) ?_ hbase w.heap.size rfl fun g cap w' hown' hg' hat hlt => h g cap w' ?_ hg' hat hlt
  · intro j u hj
    obtain ⟨i, q, k, hi, hk, e⟩ := flatR_split hf hn0 hj
    have := hL i q hi k u hk
    rw [Go.WideShapes.add_plain, e, ← Nat.add_assoc]; exact this
  · intro u hu'
    obtain ⟨q, _, hq⟩ := List.mem_flatMap.1 hu'
    exact h1c q u hq
  · have e : nb * (X.length + L2.length) = (X.length + L2.length) * nb := Nat.mul_comm _ _
    omega
  · unfold OwnR
    rw [List.length_append, List.flatMap_append]
    exact hown'
theorem OwnR.cut {base : Nat} {w : World} {A : Option Addr} {N cap : Nat} {L : List α} (hf : ∀ q, (f q).length = n) (h : OwnR E n f base w (.slice A N cap) L) (hne : 0 < L.length) (k : Nat) (hk : k ≤ L.length) : OwnR E n f base w (.slice A k cap) (L.take k) := by
  obtain ⟨h1, h2⟩ := h
  have hkl : (L.take k).length = k := by rw [List.length_take]; omega
  rcases h2 with ⟨_, hz⟩ | ⟨g, c, cur, e, h3, h4, h5, h6, h7, h8⟩
  · omega
  · simp only [Value.slice.injEq] at e
    obtain ⟨rfl, rfl, rfl⟩ := e
    refine ⟨by rw [flatR_len hf, hkl], .inr ⟨g, cap, cur, by rw [hkl], h3, h4, by omega, h6, h7, ?_⟩⟩
    rw [hkl]
    have e2 : (L.take k).flatMap f = (L.flatMap f).take (k * n) := by
      conv => rhs; rw [← List.take_append_drop k L, List.flatMap_append, List.take_append_of_le_length (by rw [flatR_len hf, hkl]; exact Nat.le_refl _), List.take_of_length_le (by rw [flatR_len hf, hkl]; exact Nat.le_refl _)]
    rw [e2, ← h8, List.take_take, Nat.min_eq_left (Nat.mul_le_mul_right n hk)]
end
end Go.Proofs.YtjgjacihdggimaaGreatDoor
