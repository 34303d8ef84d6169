/- Texts joined: EwP. -/
import Derived.Test.YthaoalmhhgllmaaGreatDoorMb25
import Derived.Deep.RegionHeld3
set_option linter.all false
namespace Go.Proofs.YthaoalmhhgllmaaGreatDoor
open Go.RowKit
set_option maxHeartbeats 8000000 in
set_option maxRecDepth 100000 in
theorem evreads_y (t : Tr) (l m : List Cel) (hg : GC t l) (hg2 : GC t m) (w : World) (A : Option Addr) (ca : Nat) (LA : Option Addr) (lc : Nat) (MA : Option Addr) (mc : Nat) (hA : KV w (fun _ => True) t A) (hc : ListC w LA l) (hc2 : ListC w MA m) {B : Nat} (hSB : B ≤ w.heap.size) (hSt : Strs B B w) (hf : fitsB t = true) (hr : rightT t = true) (hn1 : ¬ 300 < l.length) (hn2 : ¬ 300 < m.length) :
    Calls Tryz.prog 4 #[tv t A ca, .slice LA l.length lc, .slice MA m.length mc] w fun e w' => e = .returned (.bool true) ∧ Below w.heap.size w w' := by
  have HK := Lib.hid (fun w' (hb : Below (w.heap.size + 1) (w.alloc (.cells #[.int .i64 t.kind, .int .i64 t.num, .int .i64 t.c1, .int .i64 t.r1, .int .i64 t.c2, .int .i64 t.r2, .string ⟨t.word.toArray⟩, .slice A t.kids.length ca] 29)) w') => show Below w.heap.size w w' from ((Below.refl _ _).alloc (Nat.le_refl _) _).trans (hb.mono (by omega)))
  have HB0 : Hid (Below (w.heap.size + 1) (w.alloc (.cells #[.int .i64 t.kind, .int .i64 t.num, .int .i64 t.c1, .int .i64 t.r1, .int .i64 t.c2, .int .i64 t.r2, .string ⟨t.word.toArray⟩, .slice A t.kids.length ca] 29)) (w.alloc (.cells #[.int .i64 t.kind, .int .i64 t.num, .int .i64 t.c1, .int .i64 t.r1, .int .i64 t.c2, .int .i64 t.r2, .string ⟨t.word.toArray⟩, .slice A t.kids.length ca] 29))) := Lib.hid (Below.refl _ _)
  have HL : Hid (∀ w', Below (w.heap.size + 1) (w.alloc (.cells #[.int .i64 t.kind, .int .i64 t.num, .int .i64 t.c1, .int .i64 t.r1, .int .i64 t.c2, .int .i64 t.r2, .string ⟨t.word.toArray⟩, .slice A t.kids.length ca] 29)) w' → w'.cell? ⟨w.heap.size, 0, none⟩ = some (.int .i64 t.kind) ∧ w'.cell? ⟨w.heap.size, 1, none⟩ = some (.int .i64 t.num) ∧ w'.cell? ⟨w.heap.size, 2, none⟩ = some (.int .i64 t.c1) ∧ w'.cell? ⟨w.heap.size, 3, none⟩ = some (.int .i64 t.r1) ∧ w'.cell? ⟨w.heap.size, 4, none⟩ = some (.int .i64 t.c2) ∧ w'.cell? ⟨w.heap.size, 5, none⟩ = some (.int .i64 t.r2) ∧ w'.cell? ⟨w.heap.size, 6, none⟩ = some (.string ⟨t.word.toArray⟩) ∧ w'.cell? ⟨w.heap.size, 7, none⟩ = some (.slice A t.kids.length ca)) := Lib.hid fun w' hb => by
    have hs := hb.size
    simp at hs
    refine ⟨?_, ?_, ?_, ?_, ?_, ?_, ?_, ?_⟩ <;> (rw [hb.cell (by simp)]; simp [go_sem])
  have HFi := Lib.hid (fun w' (hb : Below (w.heap.size + 1) (w.alloc (.cells #[.int .i64 t.kind, .int .i64 t.num, .int .i64 t.c1, .int .i64 t.r1, .int .i64 t.c2, .int .i64 t.r2, .string ⟨t.word.toArray⟩, .slice A t.kids.length ca] 29)) w') => lfits_any t hg.wid w' A ca (hA.kept (Kept.of_below (HK.out w' hb))))
  have HRi := Lib.hid (fun w' (hb : Below (w.heap.size + 1) (w.alloc (.cells #[.int .i64 t.kind, .int .i64 t.num, .int .i64 t.c1, .int .i64 t.r1, .int .i64 t.c2, .int .i64 t.r2, .string ⟨t.word.toArray⟩, .slice A t.kids.length ca] 29)) w') (hd : deepT t ≤ 1000000000) => rRight_any t hd hg.wid w' (fun _ => True) A ca (hA.kept (Kept.of_below (HK.out w' hb))))
  have HAl := Lib.hid (fun w' (hb : Below (w.heap.size + 1) (w.alloc (.cells #[.int .i64 t.kind, .int .i64 t.num, .int .i64 t.c1, .int .i64 t.r1, .int .i64 t.c2, .int .i64 t.r2, .string ⟨t.word.toArray⟩, .slice A t.kids.length ca] 29)) w') => ealive w' (B := B) (Nat.le_trans hSB (HK.out w' hb).size) (hSt.later hSB (HK.out w' hb)))
  have hrp : rightP t = true := by rw [← right_same]; exact hr
  have hdp := Nat.le_trans (fits_deep hf) (show 40 ≤ 1000000000 by decide)
  have HRd := Lib.hid (fun w' (hb : Below (w.heap.size + 1) (w.alloc (.cells #[.int .i64 t.kind, .int .i64 t.num, .int .i64 t.c1, .int .i64 t.r1, .int .i64 t.c2, .int .i64 t.r2, .string ⟨t.word.toArray⟩, .slice A t.kids.length ca] 29)) w') => rReads_any t hg.wid hdp w' A ca (hA.kept (Kept.of_below (HK.out w' hb))))
  have HBd := Lib.hid (fun w' (hb : Below (w.heap.size + 1) (w.alloc (.cells #[.int .i64 t.kind, .int .i64 t.num, .int .i64 t.c1, .int .i64 t.r1, .int .i64 t.c2, .int .i64 t.r2, .string ⟨t.word.toArray⟩, .slice A t.kids.length ca] 29)) w') => rBads_any t hg.wid hdp (Nat.le_trans (cnK_cnt 2 t) (Nat.le_trans (fits_cnt hf) (by decide))) w' A ca (hA.kept (Kept.of_below (HK.out w' hb))))
  have HO1 := Lib.hid (fun w' (hb : Below (w.heap.size + 1) (w.alloc (.cells #[.int .i64 t.kind, .int .i64 t.num, .int .i64 t.c1, .int .i64 t.r1, .int .i64 t.c2, .int .i64 t.r2, .string ⟨t.word.toArray⟩, .slice A t.kids.length ca] 29)) w') => eOf_any (by have := hn1; unfold maxLen; omega) hg.num hg.plc t hg.wid hg.fit (fits_cnt hf) w' A ca LA lc (hA.kept (Kept.of_below (HK.out w' hb))) (hc.below (HK.out w' hb)) (B := B) (Nat.le_trans hSB (HK.out w' hb).size) (hSt.later hSB (HK.out w' hb)))
  have hon : ∀ q ∈ onlyL t l m, B64 q.n ∧ B64 q.c ∧ B64 q.r := fun q hq => by
    rcases List.mem_append.1 hq with h | h
    · have := (List.mem_filter.1 h).1; exact ⟨hg.num q this, hg.plc q this⟩
    · have := (List.mem_filter.1 h).1; exact ⟨hg2.num q this, hg2.plc q this⟩
  have hol : (onlyL t l m).length ≤ 600 := by
    unfold onlyL
    rw [List.length_append]
    have h1 := List.length_filter_le (fun q : Cel => hasL (rdL t) q.c q.r) l
    have h2 := List.length_filter_le (fun q : Cel => !hasL (rdL t) q.c q.r) m
    omega
  have HO2 := Lib.hid (fun w' OA oc (hb : Below (w.heap.size + 1) (w.alloc (.cells #[.int .i64 t.kind, .int .i64 t.num, .int .i64 t.c1, .int .i64 t.r1, .int .i64 t.c2, .int .i64 t.r2, .string ⟨t.word.toArray⟩, .slice A t.kids.length ca] 29)) w') (ho : ListC w' OA (onlyL t l m)) => eOf_any (l := onlyL t l m) (by unfold maxLen; omega) (fun q hq => (hon q hq).1) (fun q hq => (hon q hq).2) t hg.wid hg.fit (fits_cnt hf) w' A ca OA oc (hA.kept (Kept.of_below (HK.out w' hb))) ho (B := B) (Nat.le_trans hSB (HK.out w' hb).size) (hSt.later hSB (HK.out w' hb)))
  rw [only_of hrp] at HO2
  have HLc := Lib.hid (fun w' (hb : Below (w.heap.size + 1) (w.alloc (.cells #[.int .i64 t.kind, .int .i64 t.num, .int .i64 t.c1, .int .i64 t.r1, .int .i64 t.c2, .int .i64 t.r2, .string ⟨t.word.toArray⟩, .slice A t.kids.length ca] 29)) w') => hc.below (HK.out w' hb))
  have HMc := Lib.hid (fun w' (hb : Below (w.heap.size + 1) (w.alloc (.cells #[.int .i64 t.kind, .int .i64 t.num, .int .i64 t.c1, .int .i64 t.r1, .int .i64 t.c2, .int .i64 t.r2, .string ⟨t.word.toArray⟩, .slice A t.kids.length ca] 29)) w') => hc2.below (HK.out w' hb))
  have HRi := Lib.hid (fun w' hb => HRi.out w' hb hdp)
  have HNz := Lib.hid (nz_of l t)
  have HOk : Hid (decide ((0 : Int) < (cnK 2 t : Int)) = false → fltL (fun q => hasL (rdL t) q.c q.r) l l.length = false → OkF (ofV l t)) := Lib.hid fun h1 h2 => read_ok hrp (by have := of_decide_eq_false h1; omega) h2
  have hrl : (rdL t).length ≤ 1024 := by unfold rdL; rw [if_pos hr]; exact readsTo_le t 1024
  have hck : (cnK 2 t : Int) ≤ 1000000 := by have := Nat.le_trans (cnK_cnt 2 t) (fits_cnt hf); omega
  rw [hf] at HFi
  rw [hr] at HRi HBd
  have hlen := hg.wid.len
  have hll := hg.len
  have hlm := hg2.len
  unfold maxLen at hlen hll hlm
  unfold tv at *
  have d1 : decide ((300 : Int) < (l.length : Int)) = false := decide_eq_false (by omega)
  have d2 : decide ((300 : Int) < (m.length : Int)) = false := decide_eq_false (by omega)
  have HOL : Hid (onlyL t l m = pickL (fun q => hasL (rdL t) q.c q.r) l l.length ++ pickL (fun q => !hasL (rdL t) q.c q.r) m m.length) := Lib.hid (by rw [pick_all, pick_all]; rfl)
  clear hA hc hc2 hSB hSt hg hg2 hr hf hrp hdp hon
  generalize onlyL t l m = OL at *
  generalize rdL t = RL at *
  generalize hCK : (cnK 2 t : Int) = CK at *
  generalize (ofV l t) = V at *
  obtain ⟨X, Y⟩ := V
  dsimp only at HO1 HO2
  obtain ⟨F0, hF0⟩ : ∃ F0, decide ((0 : Int) < CK) = F0 := ⟨_, rfl⟩
  rw [hF0] at HOk
  have hck0 : 0 ≤ CK := by rw [← hCK]; omega
  clear hCK
  go_enter Tryz.func4, Tryz.ntmps4
  go_wp2_with fail
  refine Calls.mono (HFi.out _ HB0.out) ?_; rintro e w1 ⟨rfl, b1⟩
  have HB1 := Lib.hid (HB0.out.trans (b1.mono (by simp)))
  clear b1
  obtain ⟨k0, k1, k2, k3, k4, k5, k6, k7⟩ := HL.out w1 HB1.out
  go_wp2_with fail
  refine Calls.mono (HRi.out _ HB1.out) ?_; rintro e w2 ⟨rfl, b2⟩
  have HB2 := Lib.hid (HB1.out.trans (b2.mono (by have := HB1.out.size; simpa using this)))
  clear b2
  clear k0 k1 k2 k3 k4 k5 k6 k7
  obtain ⟨k0, k1, k2, k3, k4, k5, k6, k7⟩ := HL.out w2 HB2.out
  go_wp2_with fail
  refine Calls.mono (HRd.out _ HB2.out) ?_; rintro e w3 ⟨rv, rfl, hrow, b3⟩
  obtain ⟨RA, rc, rfl, hsh⟩ := own_shapeB hrow
  have HB3 := Lib.hid (HB2.out.trans (b3.mono (by have := HB2.out.size; simpa using this)))
  have HPl : Hid (PlW w3 RA RL) := Lib.hid fun i hi => by
    obtain ⟨g, e, _, h2, h3⟩ := hsh i hi
    exact ⟨g, e, h2, h3⟩
  clear b3 hrow hsh k0 k1 k2 k3 k4 k5 k6 k7
  obtain ⟨k0, k1, k2, k3, k4, k5, k6, k7⟩ := HL.out w3 HB3.out
  go_wp2_with fail
  refine Calls.mono (HBd.out _ HB3.out) ?_; rintro e w4 ⟨rfl, b4⟩
  have HB4 := Lib.hid (HB3.out.trans (b4.mono (by have := HB3.out.size; simpa using this)))
  have HP4 := Lib.hid (HPl.out.below b4)
  have HZ4 : Hid (w.heap.size + 1 ≤ w4.heap.size) := Lib.hid (by have := HB4.out.size; simpa using this)
  clear b4 HPl k0 k1 k2 k3 k4 k5 k6 k7 HFi HRi HRd HBd
  go_wp2_with fail
  go_loopw [10, 11, 12] (fun v fv n wr => ∃ i : Nat, i ≤ l.length ∧ n = .int .i64 (i : Int) ∧ fv = .bool (F0 || fltL (fun q => hasL RL q.c q.r) l i) ∧ OwnC w4.heap.size wr v (pickL (fun q => hasL RL q.c q.r) l i) ∧ Below w4.heap.size w4 wr) (fun _ _ n _ => l.length - (intOf n).toNat)
  case atStart => exact ⟨0, Nat.zero_le _, rfl, by rw [show fltL (fun q => hasL RL q.c q.r) l 0 = false from rfl, Bool.or_false], World.ownsRow_nil _ _ _ _, Below.refl _ _⟩
  case round =>
    obtain ⟨i, hi, rfl, rfl, hown, hbel⟩ := hrel
    have HO := Lib.hid hown
    have hpl := pick_le (fun q => hasL RL q.c q.r) l i
    have zs := hbel.size
    clear hown
    by_cases hlt : i < l.length
    · obtain ⟨q, hq⟩ : ∃ q, l[i]? = some q := ⟨_, List.getElem?_eq_getElem hlt⟩
      obtain ⟨g, o, rfl, hat⟩ := (HLc.out wr (HB4.out.trans (hbel.mono HZ4.out))) (by rintro rfl; simp at hlt)
      obtain ⟨c0, c1, c2, c3⟩ := hat.get hq
      have HH := Lib.hid (lhas_any RL hrl RA rc q.c q.r wr (HP4.out.below hbel))
      have zg : g < wr.heap.size := Lib.lt_of_cell c0
      cases hh : hasL RL q.c q.r with
      | false =>
        have HT := Lib.hid (pick_no (f := fun q => hasL RL q.c q.r) hq hh)
        have HF := Lib.hid (flt_no (f := fun q => hasL RL q.c q.r) hq hh)
        rw [hh] at HH
        clear hat hq hh
        go_wp2_with fail
        refine Calls.mono HH.out ?_; rintro e w5 ⟨rfl, b5⟩
        have HR : Hid (OwnC w4.heap.size w5 u10 (pickL (fun q => hasL RL q.c q.r) l (i + 1)) ∧ Below w4.heap.size w4 w5) := Lib.hid ⟨by rw [HT.out]; exact own_below HO.out b5, hbel.trans (b5.mono zs)⟩
        clear b5 c0 c1 c2 c3
        go_wp2_with fail
        go_roundw
        case rel => exact ⟨i + 1, by omega, by go_num, by rw [HF.out], HR.out.1, HR.out.2⟩
        case measure => simp [intOf]; omega
      | true =>
        have HT := Lib.hid (pick_yes (f := fun q => hasL RL q.c q.r) hq hh)
        have HF := Lib.hid (flt_yes (f := fun q => hasL RL q.c q.r) hq hh)
        rw [hh] at HH
        have HQ := Lib.hid hq
        clear hat hq hh
        generalize fltL (fun q => hasL RL q.c q.r) l i = FI at *
        go_wp2_with fail
        refine Calls.mono HH.out ?_; rintro e w5 ⟨rfl, b5⟩
        have HO5 : Hid (OwnC w4.heap.size w5 u10 (pickL (fun q => hasL RL q.c q.r) l i)) := Lib.hid (own_below HO.out b5)
        have hb5 := hbel.trans (b5.mono zs)
        have z5 := hb5.size
        have e0 := keep_cell b5 c0
        have e1 := keep_cell b5 c1
        have e2 := keep_cell b5 c2
        have e3 := keep_cell b5 c3
        clear b5 c0 c1 c2 c3 HO
        go_wp2_with (at_builtin; refine of_stop ?_)
        refine stop_of ?_
        refine wpList_append_cell _ rfl _ _ rfl rfl (w0 := w5) (q := q) rfl HO5.out rfl (by omega) (by omega) ?_
        intro v' w6 hown6 hg6
        have hb6 := hb5.grown hg6 z5 (fun k hk => (HO5.out.lt k hk).1)
        rw [← HT.out] at hown6
        obtain ⟨g', o', eg, hat'⟩ := (HLc.out w6 (HB4.out.trans (hb6.mono HZ4.out))) (by rintro rfl; simp at hlt)
        cases eg
        obtain ⟨_, _, _, c3⟩ := hat'.get HQ.out
        have hlt3 := hlt
        clear hg6 HO5 hb5 z5 e0 e1 e2 e3 hat'
        cases hphi : (F0 || FI) with
        | true =>
          have HPhi : Hid ((F0 || fltL (fun q => hasL RL q.c q.r) l (i + 1)) = true) := Lib.hid (by rw [HF.out, ← Bool.or_assoc, hphi]; rfl)
          go_wp2_with fail
          go_roundw
          case rel => exact ⟨i + 1, by omega, by go_num, by rw [HPhi.out], hown6, hb6⟩
          case measure => simp [intOf]; omega
        | false =>
          have HPhi : Hid ((F0 || fltL (fun q => hasL RL q.c q.r) l (i + 1)) = (q.f != 0)) := Lib.hid (by rw [HF.out, ← Bool.or_assoc, hphi]; rfl)
          go_wp2_with fail
          go_roundw
          case rel => exact ⟨i + 1, by omega, by go_num, by rw [HPhi.out], hown6, hb6⟩
          case measure => simp [intOf]; omega
    · have hii : i = l.length := by omega
      subst hii
      have HO9 := Lib.hid HO.out
      have hpl1 := hpl
      generalize fltL (fun q => hasL RL q.c q.r) l l.length = FI at *
      generalize hP1 : pickL (fun q => hasL RL q.c q.r) l l.length = P1 at *
      clear HO hpl
      go_wp2_with fail
      go_loopw [10, 14] (fun v n wr => ∃ i : Nat, i ≤ m.length ∧ n = .int .i64 (i : Int) ∧ OwnC w4.heap.size wr v (P1 ++ pickL (fun q => !hasL RL q.c q.r) m i) ∧ Below w4.heap.size w4 wr) (fun _ n _ => m.length - (intOf n).toNat)
      case atStart => exact ⟨0, Nat.zero_le _, rfl, by rw [show pickL (fun q => !hasL RL q.c q.r) m 0 = [] from rfl, List.append_nil]; exact HO9.out, hbel⟩
      case round =>
        clear HO9 hbel zs
        obtain ⟨i, hi, rfl, hown, hbel⟩ := hrel
        have HO := Lib.hid hown
        have hpl := pick_le (fun q => !hasL RL q.c q.r) m i
        have zs := hbel.size
        clear hown
        by_cases hlt : i < m.length
        · obtain ⟨q, hq⟩ : ∃ q, m[i]? = some q := ⟨_, List.getElem?_eq_getElem hlt⟩
          obtain ⟨g, o, rfl, hat⟩ := (HMc.out wr (HB4.out.trans (hbel.mono HZ4.out))) (by rintro rfl; simp at hlt)
          obtain ⟨c0, c1, c2, c3⟩ := hat.get hq
          have HH := Lib.hid (lhas_any RL hrl RA rc q.c q.r wr (HP4.out.below hbel))
          have zg : g < wr.heap.size := Lib.lt_of_cell c0
          cases hh : hasL RL q.c q.r with
          | true =>
            have HT := Lib.hid (pick_no (f := fun q => !hasL RL q.c q.r) hq (by rw [hh]; rfl))
            rw [hh] at HH
            clear hat hq hh
            go_wp2_with fail
            refine Calls.mono HH.out ?_; rintro e w5 ⟨rfl, b5⟩
            have HR : Hid (OwnC w4.heap.size w5 u10 (P1 ++ pickL (fun q => !hasL RL q.c q.r) m (i + 1)) ∧ Below w4.heap.size w4 w5) := Lib.hid ⟨by rw [HT.out]; exact own_below HO.out b5, hbel.trans (b5.mono zs)⟩
            clear b5 c0 c1 c2 c3
            go_wp2_with fail
            go_roundw
            case rel => exact ⟨i + 1, by omega, by go_num, HR.out.1, HR.out.2⟩
            case measure => simp [intOf]; omega
          | false =>
            have HT := Lib.hid (pick_yes (f := fun q => !hasL RL q.c q.r) hq (by rw [hh]; rfl))
            rw [hh] at HH
            clear hat hq hh
            go_wp2_with fail
            refine Calls.mono HH.out ?_; rintro e w5 ⟨rfl, b5⟩
            have HO5 : Hid (OwnC w4.heap.size w5 u10 (P1 ++ pickL (fun q => !hasL RL q.c q.r) m i)) := Lib.hid (own_below HO.out b5)
            have hb5 := hbel.trans (b5.mono zs)
            have z5 := hb5.size
            have e0 := keep_cell b5 c0
            have e1 := keep_cell b5 c1
            have e2 := keep_cell b5 c2
            have e3 := keep_cell b5 c3
            clear b5 c0 c1 c2 c3 HO
            go_wp2_with (at_builtin; refine of_stop ?_)
            refine stop_of ?_
            refine wpList_append_cell _ rfl _ _ rfl rfl (w0 := w5) (q := q) rfl HO5.out rfl (by rw [List.length_append]; omega) (by omega) ?_
            intro v' w6 hown6 hg6
            have hb6 := hb5.grown hg6 z5 (fun k hk => (HO5.out.lt k hk).1)
            rw [List.append_assoc, ← HT.out] at hown6
            clear hg6 HO5 hb5 z5 e0 e1 e2 e3
            go_wp2_with fail
            go_roundw
            case rel => exact ⟨i + 1, by omega, by go_num, hown6, hb6⟩
            case measure => simp [intOf]; omega
        · have hii : i = m.length := by omega
          subst hii
          rw [← HOL.out] at HO
          obtain ⟨OA, oc, hv, hlo⟩ := HO.out.shape
          subst hv
          have HB5 := Lib.hid (HB4.out.trans (hbel.mono HZ4.out))
          have HLo := Lib.hid hlo
          clear HO hlo hbel
          obtain ⟨k0, k1, k2, k3, k4, k5, k6, k7⟩ := HL.out wr HB5.out
          go_wp2_with fail
          refine Calls.mono (HO1.out wr HB5.out) ?_; rintro e w7 ⟨rfl, b7⟩
          have HZ5 : Hid (w.heap.size + 1 ≤ wr.heap.size) := Lib.hid (by have := HB5.out.size; simpa using this)
          have HB7 : Hid (Below (w.heap.size + 1) (w.alloc (.cells #[.int .i64 t.kind, .int .i64 t.num, .int .i64 t.c1, .int .i64 t.r1, .int .i64 t.c2, .int .i64 t.r2, .string ⟨t.word.toArray⟩, .slice A t.kids.length ca] 29)) (w7.alloc (.cells #[.int .i64 X, .int .i64 Y] 35))) := Lib.hid ((HB5.out.trans (b7.mono HZ5.out)).alloc (Nat.le_trans HZ5.out b7.size) _)
          have HLo7 := Lib.hid ((HLo.out.below b7).below ((Below.refl _ w7).alloc (Nat.le_refl _) (.cells #[.int .i64 X, .int .i64 Y] 35)))
          have HV7 := Lib.hid (V2.new w7 X Y)
          have HZ7 : Hid (w.heap.size + 1 ≤ (w7.alloc (.cells #[.int .i64 X, .int .i64 Y] 35)).heap.size) := Lib.hid (by have := HB7.out.size; simpa using this)
          clear b7 k0 k1 k2 k3 k4 k5 k6 k7 HB5 HLo HZ5
          go_wp2_with fail
          generalize w7.alloc (.cells #[.int .i64 X, .int .i64 Y] 35) = W7 at *
          have hS : Hid (∀ w', Below W7.heap.size W7 w' → (w'.cell? ⟨w.heap.size, 0, none⟩ = some (.int .i64 t.kind) ∧ w'.cell? ⟨w.heap.size, 1, none⟩ = some (.int .i64 t.num) ∧ w'.cell? ⟨w.heap.size, 2, none⟩ = some (.int .i64 t.c1) ∧ w'.cell? ⟨w.heap.size, 3, none⟩ = some (.int .i64 t.r1) ∧ w'.cell? ⟨w.heap.size, 4, none⟩ = some (.int .i64 t.c2) ∧ w'.cell? ⟨w.heap.size, 5, none⟩ = some (.int .i64 t.r2) ∧ w'.cell? ⟨w.heap.size, 6, none⟩ = some (.string ⟨t.word.toArray⟩) ∧ w'.cell? ⟨w.heap.size, 7, none⟩ = some (.slice A t.kids.length ca)) ∧ w'.cell? ⟨w7.heap.size, 0, none⟩ = some (.int .i64 X) ∧ w'.cell? ⟨w7.heap.size, 1, none⟩ = some (.int .i64 Y)) := Lib.hid fun w' hb => ⟨HL.out w' (HB7.out.trans (hb.mono HZ7.out)), (HV7.out.below hb).1, (HV7.out.below hb).2⟩
          have HFin : Hid (∀ w', Below W7.heap.size W7 w' → Below (w.heap.size + 1) (w.alloc (.cells #[.int .i64 t.kind, .int .i64 t.num, .int .i64 t.c1, .int .i64 t.r1, .int .i64 t.c2, .int .i64 t.r2, .string ⟨t.word.toArray⟩, .slice A t.kids.length ca] 29)) w') := Lib.hid fun w' hb => HB7.out.trans (hb.mono HZ7.out)
          have hG := fun P Q W => guard_value .neq P Q #[.int .i64 X, .int .i64 Y] #[.int .i64 X, .int .i64 Y] W
          have hE : ∀ W, (binOp .neq 35 (.agg #[.int .i64 X, .int .i64 Y]) (.agg #[.int .i64 X, .int .i64 Y])).run Tryz.prog W = .ok (.bool false) W := fun W => by rw [neq_value, beq_self_eq_true, beq_self_eq_true]; rfl
          have hcase : (Y ≠ 0 → X = 0) := HNz.out
          have hok : (F0 || FI) = false → Y = 0 ∨ Y = 1 ∨ Y = 2 := fun h => by
            rw [Bool.or_eq_false_iff] at h
            exact HOk.out h.1 h.2
          clear HNz HOk HB7 HZ7 HV7 HOL HMc HLc HP4 HB4 HZ4 hF0
          generalize hPh : (F0 || FI) = PH at *
          by_cases hy : Y = 0
          · subst hy
            clear hcase hok hPh
            refine wp_region_held_drew (S := fun w' => (w'.cell? ⟨w.heap.size, 0, none⟩ = some (.int .i64 t.kind) ∧ w'.cell? ⟨w.heap.size, 1, none⟩ = some (.int .i64 t.num) ∧ w'.cell? ⟨w.heap.size, 2, none⟩ = some (.int .i64 t.c1) ∧ w'.cell? ⟨w.heap.size, 3, none⟩ = some (.int .i64 t.r1) ∧ w'.cell? ⟨w.heap.size, 4, none⟩ = some (.int .i64 t.c2) ∧ w'.cell? ⟨w.heap.size, 5, none⟩ = some (.int .i64 t.r2) ∧ w'.cell? ⟨w.heap.size, 6, none⟩ = some (.string ⟨t.word.toArray⟩) ∧ w'.cell? ⟨w.heap.size, 7, none⟩ = some (.slice A t.kids.length ca)) ∧ w'.cell? ⟨w7.heap.size, 0, none⟩ = some (.int .i64 X) ∧ w'.cell? ⟨w7.heap.size, 1, none⟩ = some (.int .i64 0)) (by kernel_rfl) ?_ (fun hHeld => ?_)
            · try dsimp only
              (with_reducible exact hS.out _ (by with_reducible repeat' (first | exact Below.refl _ _ | refine Below.drew ?_ | refine Below.alloc ?_ ?_ _ | refine le_al ?_)))
            refine wpAnyH_take (i := 0) (oi := { dst := some 98, op := .load 29 (.tmp 3), type := 29, pos := "law.go:59", after := #[], guard := none }) (v := ?_) rfl (by kernel_rfl) (by kernel_rfl) (by kernel_rfl) (fun _ _ _ h => h) (Or.inl ⟨by rfl, ?_⟩) (by assumption) ?_
            rotate_left
            · (intro w hSw; (try dsimp only at hSw); go_simp)
              try with_reducible rfl
            try simp only [Act.put, List.setIfInBounds_toArray, List.set_cons_zero, List.set_cons_succ]
            refine wpAnyH_take (i := 1) (oi := { dst := some 99, op := .move (.tmp 10), type := 30, pos := "law.go:59", after := #[], guard := none }) (v := ?_) rfl (by kernel_rfl) (by kernel_rfl) (by kernel_rfl) (fun _ _ _ h => h) (Or.inl ⟨by rfl, ?_⟩) (by assumption) ?_
            rotate_left
            · (intro w hSw; (try dsimp only at hSw); go_simp)
              try with_reducible rfl
            try simp only [Act.put, List.setIfInBounds_toArray, List.set_cons_zero, List.set_cons_succ]
            refine wpAnyH_take (i := 3) (oi := { dst := some 101, op := .load 35 (.tmp 16), type := 35, pos := "law.go:59", after := #[], guard := none }) (v := ?_) rfl (by kernel_rfl) (by kernel_rfl) (by kernel_rfl) (fun _ _ _ h => h) (Or.inl ⟨by rfl, ?_⟩) (by assumption) ?_
            rotate_left
            · (intro w hSw; (try dsimp only at hSw); go_simp)
              try with_reducible rfl
            try simp only [Act.put, List.setIfInBounds_toArray, List.set_cons_zero, List.set_cons_succ]
            refine wpAnyH_ready (rs := [2]) (by kernel_rfl) (by simp) ?_
            refine AllReadyH.cons (o := { dst := some 100, op := .call { callee := .value (.func 7), args := #[.tmp 98, .tmp 99], argTypes := #[29, 30] }, type := 35, pos := "law.go:59", after := #[{ on := 0, ground := .data }, { on := 1, ground := .data }], guard := none }) rfl (fun K hK => ?_) AllReadyH.nil
            go_simp
            refine Calls.mono (HO2.out _ OA oc (HFin.out _ (by with_reducible repeat' (first | exact Below.refl _ _ | refine Below.drew ?_ | refine Below.alloc ?_ ?_ _ | refine le_al ?_))) (HLo7.out.below (by with_reducible repeat' (first | exact Below.refl _ _ | refine Below.drew ?_ | refine Below.alloc ?_ ?_ _ | refine le_al ?_)))) ?_; rintro e w8 ⟨rfl, b8⟩
            have B8 : Below W7.heap.size W7 w8 := below_up (by with_reducible repeat' (first | exact Below.refl _ _ | refine Below.drew ?_ | refine Below.alloc ?_ ?_ _ | refine le_al ?_)) b8
            go_wp2_with fail
            refine hK.out _ _ ?_ (fun hHeld => ?_)
            · try dsimp only
              (with_reducible exact hS.out _ B8)
            clear hK K
            try simp only [Act.put, List.setIfInBounds_toArray, List.set_cons_zero, List.set_cons_succ]
            refine wpAnyH_take (i := 4) (oi := { dst := some 102, op := .binOp .neq 35 (.tmp 100) (.tmp 101) 35, type := 4, pos := "law.go:59", after := #[{ on := 2, ground := .data }, { on := 3, ground := .data }], guard := none }) (v := ?_) rfl (by kernel_rfl) (by kernel_rfl) (by kernel_rfl) (fun _ _ _ h => h) (Or.inl ⟨by rfl, ?_⟩) (by assumption) ?_
            rotate_left
            · (intro w hSw; (try dsimp only at hSw); go_simp)
              try with_reducible rfl
            try simp only [Act.put, List.setIfInBounds_toArray, List.set_cons_zero, List.set_cons_succ]
            refine wpAnyH_take (i := 5) (oi := { dst := some 103, op := .move (.tmp 102), type := 4, pos := "law.go:59", after := #[{ on := 4, ground := .data }, { on := 2, ground := .chain }], guard := none }) (v := ?_) rfl (by kernel_rfl) (by kernel_rfl) (by kernel_rfl) (fun _ _ _ h => h) (Or.inl ⟨by rfl, ?_⟩) (by assumption) ?_
            rotate_left
            · (intro w hSw; (try dsimp only at hSw); go_simp)
              try with_reducible rfl
            try simp only [Act.put, List.setIfInBounds_toArray, List.set_cons_zero, List.set_cons_succ]
            refine wpAnyH_take (i := 6) (oi := { dst := some 104, op := .fieldAddr 35 (.tmp 16) 1, type := 0, pos := "law.go:59", after := #[{ on := 5, ground := .guard }], guard := some (5, false) }) (v := ?_) rfl (by kernel_rfl) (by kernel_rfl) (by kernel_rfl) (fun _ _ _ h => h) (Or.inl ⟨by rfl, ?_⟩) (by assumption) ?_
            rotate_left
            · (intro w hSw; (try dsimp only at hSw); go_simp)
              try with_reducible rfl
            try simp only [Act.put, List.setIfInBounds_toArray, List.set_cons_zero, List.set_cons_succ]
            refine wpAnyH_take (i := 7) (oi := { dst := some 105, op := .load 33 (.tmp 104), type := 33, pos := "law.go:59", after := #[{ on := 6, ground := .data }, { on := 5, ground := .guard }], guard := some (5, false) }) (v := ?_) rfl (by kernel_rfl) (by kernel_rfl) (by kernel_rfl) (fun _ _ _ h => h) (Or.inl ⟨by rfl, ?_⟩) (by assumption) ?_
            rotate_left
            · (intro w hSw; (try dsimp only at hSw); go_simp)
              try with_reducible rfl
            try simp only [Act.put, List.setIfInBounds_toArray, List.set_cons_zero, List.set_cons_succ]
            refine wpAnyH_take (i := 8) (oi := { dst := some 106, op := .binOp .neq 33 (.tmp 105) (.const (.int .i64 0)) 33, type := 4, pos := "law.go:59", after := #[{ on := 7, ground := .data }, { on := 5, ground := .guard }], guard := some (5, false) }) (v := ?_) rfl (by kernel_rfl) (by kernel_rfl) (by kernel_rfl) (fun _ _ _ h => h) (Or.inl ⟨by rfl, ?_⟩) (by assumption) ?_
            rotate_left
            · (intro w hSw; (try dsimp only at hSw); go_simp)
              try with_reducible rfl
            try simp only [Act.put, List.setIfInBounds_toArray, List.set_cons_zero, List.set_cons_succ]
            refine wpAnyH_take (i := 9) (oi := { dst := some 107, op := .move (.tmp 106), type := 4, pos := "law.go:59", after := #[{ on := 8, ground := .data }, { on := 5, ground := .chain }, { on := 5, ground := .guard }], guard := some (5, false) }) (v := ?_) rfl (by kernel_rfl) (by kernel_rfl) (by kernel_rfl) (fun _ _ _ h => h) (Or.inl ⟨by rfl, ?_⟩) (by assumption) ?_
            rotate_left
            · (intro w hSw; (try dsimp only at hSw); go_simp)
              try with_reducible rfl
            try simp only [Act.put, List.setIfInBounds_toArray, List.set_cons_zero, List.set_cons_succ]
            refine anyH_skip (i := 10) (d := 108) rfl rfl (by kernel_rfl) (by kernel_rfl) (by kernel_rfl) (fun _ _ _ h => h) rfl (by rfl) (by assumption) ?_
            try simp only [List.setIfInBounds_toArray, List.set_cons_zero, List.set_cons_succ]
            refine anyH_skip (i := 11) (d := 109) rfl rfl (by kernel_rfl) (by kernel_rfl) (by kernel_rfl) (fun _ _ _ h => h) rfl (by rfl) (by assumption) ?_
            try simp only [List.setIfInBounds_toArray, List.set_cons_zero, List.set_cons_succ]
            refine anyH_skip (i := 12) (d := 110) rfl rfl (by kernel_rfl) (by kernel_rfl) (by kernel_rfl) (fun _ _ _ h => h) rfl (by rfl) (by assumption) ?_
            try simp only [List.setIfInBounds_toArray, List.set_cons_zero, List.set_cons_succ]
            refine wpAnyH_take (i := 13) (oi := { dst := some 111, op := .pick (.tmp 107) (.tmp 110) (.const (.bool false)), type := 4, pos := "law.go:59", after := #[{ on := 9, ground := .data }, { on := 12, ground := .data }, { on := 5, ground := .guard }], guard := some (5, false) }) (v := ?_) rfl (by kernel_rfl) (by kernel_rfl) (by kernel_rfl) (fun _ _ _ h => h) (Or.inl ⟨by rfl, ?_⟩) (by assumption) ?_
            rotate_left
            · (intro w hSw; (try dsimp only at hSw); go_simp)
              try with_reducible rfl
            try simp only [Act.put, List.setIfInBounds_toArray, List.set_cons_zero, List.set_cons_succ]
            refine wpAnyH_take (i := 14) (oi := { dst := some 112, op := .pick (.tmp 103) (.const (.bool true)) (.tmp 111), type := 4, pos := "law.go:59", after := #[{ on := 5, ground := .data }, { on := 13, ground := .data }], guard := none }) (v := ?_) rfl (by kernel_rfl) (by kernel_rfl) (by kernel_rfl) (fun _ _ _ h => h) (Or.inl ⟨by rfl, ?_⟩) (by assumption) ?_
            rotate_left
            · (intro w hSw; (try dsimp only at hSw); go_simp)
              try with_reducible rfl
            try simp only [Act.put, List.setIfInBounds_toArray, List.set_cons_zero, List.set_cons_succ]
            refine wpAnyH_done (by kernel_rfl) ?_ _
            cases PH
            all_goals
              have B9 := HFin.out _ B8
              have hcells := hS.out _ B8
              clear B8 HO2 HFin HLo7 hS
              go_wp2_with fail
              refine Calls.mono (HAl.out _ B9) ?_; rintro e w10 ⟨rfl, b10⟩
              obtain ⟨_, y0, y1⟩ := hcells
              have c0 := keep_cell b10 y0
              have c1 := keep_cell b10 y1
              have B10 := B9.trans (b10.mono (by have := B9.size; simpa using this))
              clear b10 y0 y1 B9 HAl HL
              go_wp2_with fail
              go_ret
              exact ⟨rfl, HK.out _ B10⟩
          · have hx := hcase hy
            subst hx
            have dy : (Y != 0) = true := by simpa using hy
            cases PH with
            | true =>
              clear hok hcase hy
              go_region_held3 (fun w' => (w'.cell? ⟨w.heap.size, 0, none⟩ = some (.int .i64 t.kind) ∧ w'.cell? ⟨w.heap.size, 1, none⟩ = some (.int .i64 t.num) ∧ w'.cell? ⟨w.heap.size, 2, none⟩ = some (.int .i64 t.c1) ∧ w'.cell? ⟨w.heap.size, 3, none⟩ = some (.int .i64 t.r1) ∧ w'.cell? ⟨w.heap.size, 4, none⟩ = some (.int .i64 t.c2) ∧ w'.cell? ⟨w.heap.size, 5, none⟩ = some (.int .i64 t.r2) ∧ w'.cell? ⟨w.heap.size, 6, none⟩ = some (.string ⟨t.word.toArray⟩) ∧ w'.cell? ⟨w.heap.size, 7, none⟩ = some (.slice A t.kids.length ca)) ∧ w'.cell? ⟨w7.heap.size, 0, none⟩ = some (.int .i64 0) ∧ w'.cell? ⟨w7.heap.size, 1, none⟩ = some (.int .i64 Y))
                (with_reducible exact hS.out _ (by with_reducible repeat' (first | exact Below.refl _ _ | exact B8 | refine Below.drew ?_ | refine Below.alloc ?_ ?_ _ | refine le_al ?_)))
                (first
                | (go_at_call 7; refine Calls.mono (HO2.out _ OA oc (HFin.out _ (by with_reducible repeat' (first | exact Below.refl _ _ | refine Below.drew ?_ | refine Below.alloc ?_ ?_ _ | refine le_al ?_))) (HLo7.out.below (by with_reducible repeat' (first | exact Below.refl _ _ | refine Below.drew ?_ | refine Below.alloc ?_ ?_ _ | refine le_al ?_)))) ?_; rintro e w8 ⟨rfl, b8⟩
                   have B8 : Below W7.heap.size W7 w8 := below_up (by with_reducible repeat' (first | exact Below.refl _ _ | refine Below.drew ?_ | refine Below.alloc ?_ ?_ _ | refine le_al ?_)) b8)
                | fail)
              have B9 := HFin.out _ B8
              have hcells := hS.out _ B8
              clear B8 HO2 HFin HLo7 hS
              go_wp2_with fail
              refine Calls.mono (HAl.out _ B9) ?_; rintro e w10 ⟨rfl, b10⟩
              obtain ⟨_, y0, y1⟩ := hcells
              have c0 := keep_cell b10 y0
              have c1 := keep_cell b10 y1
              have B10 := B9.trans (b10.mono (by have := B9.size; simpa using this))
              clear b10 y0 y1 B9 HAl HL
              go_wp2_with fail
              go_ret
              exact ⟨rfl, HK.out _ B10⟩
            | false =>
              rcases hok rfl with h | h | h
              · exact absurd h hy
              · subst h
                clear hok hcase hy
                go_region_held3 (fun w' => (w'.cell? ⟨w.heap.size, 0, none⟩ = some (.int .i64 t.kind) ∧ w'.cell? ⟨w.heap.size, 1, none⟩ = some (.int .i64 t.num) ∧ w'.cell? ⟨w.heap.size, 2, none⟩ = some (.int .i64 t.c1) ∧ w'.cell? ⟨w.heap.size, 3, none⟩ = some (.int .i64 t.r1) ∧ w'.cell? ⟨w.heap.size, 4, none⟩ = some (.int .i64 t.c2) ∧ w'.cell? ⟨w.heap.size, 5, none⟩ = some (.int .i64 t.r2) ∧ w'.cell? ⟨w.heap.size, 6, none⟩ = some (.string ⟨t.word.toArray⟩) ∧ w'.cell? ⟨w.heap.size, 7, none⟩ = some (.slice A t.kids.length ca)) ∧ w'.cell? ⟨w7.heap.size, 0, none⟩ = some (.int .i64 0) ∧ w'.cell? ⟨w7.heap.size, 1, none⟩ = some (.int .i64 1))
                  (with_reducible exact hS.out _ (by with_reducible repeat' (first | exact Below.refl _ _ | exact B8 | refine Below.drew ?_ | refine Below.alloc ?_ ?_ _ | refine le_al ?_)))
                  (first
                  | (go_at_call 7; refine Calls.mono (HO2.out _ OA oc (HFin.out _ (by with_reducible repeat' (first | exact Below.refl _ _ | refine Below.drew ?_ | refine Below.alloc ?_ ?_ _ | refine le_al ?_))) (HLo7.out.below (by with_reducible repeat' (first | exact Below.refl _ _ | refine Below.drew ?_ | refine Below.alloc ?_ ?_ _ | refine le_al ?_)))) ?_; rintro e w8 ⟨rfl, b8⟩
                     have B8 : Below W7.heap.size W7 w8 := below_up (by with_reducible repeat' (first | exact Below.refl _ _ | refine Below.drew ?_ | refine Below.alloc ?_ ?_ _ | refine le_al ?_)) b8)
                  | fail)
                have B9 := HFin.out _ B8
                have hcells := hS.out _ B8
                clear B8 HO2 HFin HLo7 hS
                go_wp2_with fail
                refine Calls.mono (HAl.out _ B9) ?_; rintro e w10 ⟨rfl, b10⟩
                obtain ⟨_, y0, y1⟩ := hcells
                have c0 := keep_cell b10 y0
                have c1 := keep_cell b10 y1
                have B10 := B9.trans (b10.mono (by have := B9.size; simpa using this))
                clear b10 y0 y1 B9 HAl HL
                go_wp2_with fail
                go_ret
                exact ⟨rfl, HK.out _ B10⟩
              · subst h
                clear hok hcase hy
                go_region_held3 (fun w' => (w'.cell? ⟨w.heap.size, 0, none⟩ = some (.int .i64 t.kind) ∧ w'.cell? ⟨w.heap.size, 1, none⟩ = some (.int .i64 t.num) ∧ w'.cell? ⟨w.heap.size, 2, none⟩ = some (.int .i64 t.c1) ∧ w'.cell? ⟨w.heap.size, 3, none⟩ = some (.int .i64 t.r1) ∧ w'.cell? ⟨w.heap.size, 4, none⟩ = some (.int .i64 t.c2) ∧ w'.cell? ⟨w.heap.size, 5, none⟩ = some (.int .i64 t.r2) ∧ w'.cell? ⟨w.heap.size, 6, none⟩ = some (.string ⟨t.word.toArray⟩) ∧ w'.cell? ⟨w.heap.size, 7, none⟩ = some (.slice A t.kids.length ca)) ∧ w'.cell? ⟨w7.heap.size, 0, none⟩ = some (.int .i64 0) ∧ w'.cell? ⟨w7.heap.size, 1, none⟩ = some (.int .i64 2))
                  (with_reducible exact hS.out _ (by with_reducible repeat' (first | exact Below.refl _ _ | exact B8 | refine Below.drew ?_ | refine Below.alloc ?_ ?_ _ | refine le_al ?_)))
                  (first
                  | (go_at_call 7; refine Calls.mono (HO2.out _ OA oc (HFin.out _ (by with_reducible repeat' (first | exact Below.refl _ _ | refine Below.drew ?_ | refine Below.alloc ?_ ?_ _ | refine le_al ?_))) (HLo7.out.below (by with_reducible repeat' (first | exact Below.refl _ _ | refine Below.drew ?_ | refine Below.alloc ?_ ?_ _ | refine le_al ?_)))) ?_; rintro e w8 ⟨rfl, b8⟩
                     have B8 : Below W7.heap.size W7 w8 := below_up (by with_reducible repeat' (first | exact Below.refl _ _ | refine Below.drew ?_ | refine Below.alloc ?_ ?_ _ | refine le_al ?_)) b8)
                  | fail)
                have B9 := HFin.out _ B8
                have hcells := hS.out _ B8
                clear B8 HO2 HFin HLo7 hS
                go_wp2_with fail
                refine Calls.mono (HAl.out _ B9) ?_; rintro e w10 ⟨rfl, b10⟩
                obtain ⟨_, y0, y1⟩ := hcells
                have c0 := keep_cell b10 y0
                have c1 := keep_cell b10 y1
                have B10 := B9.trans (b10.mono (by have := B9.size; simpa using this))
                clear b10 y0 y1 B9 HAl HL
                go_wp2_with fail
                go_ret
                exact ⟨rfl, HK.out _ B10⟩
theorem evreads_any (t : Tr) (l m : List Cel) (hg : GC t l) (hg2 : GC t m) (w : World) (A : Option Addr) (ca : Nat) (LA : Option Addr) (lc : Nat) (MA : Option Addr) (mc : Nat) (hA : KV w (fun _ => True) t A) (hc : ListC w LA l) (hc2 : ListC w MA m) {B : Nat} (hSB : B ≤ w.heap.size) (hSt : Strs B B w) :
    Calls Tryz.prog 4 #[tv t A ca, .slice LA l.length lc, .slice MA m.length mc] w fun e w' => e = .returned (.bool true) ∧ Below w.heap.size w w' := by
  by_cases hf : fitsB t = true
  · by_cases hr : rightT t = true
    · by_cases hn1 : 300 < l.length
      · exact evreads_n3 t l m hg hg2 w A ca LA lc MA mc hA hc hc2 hSB hSt hf hr hn1
      · by_cases hn2 : 300 < m.length
        · exact evreads_n4 t l m hg hg2 w A ca LA lc MA mc hA hc hc2 hSB hSt hf hr hn1 hn2
        · exact evreads_y t l m hg hg2 w A ca LA lc MA mc hA hc hc2 hSB hSt hf hr hn1 hn2
    · exact evreads_n2 t l m hg hg2 w A ca LA lc MA mc hA hc hc2 hSB hSt hf (by simpa using hr)
  · exact evreads_n1 t l m hg hg2 w A ca LA lc MA mc hA hc hc2 hSB hSt (by simpa using hf)
end Go.Proofs.YthaoalmhhgllmaaGreatDoor
