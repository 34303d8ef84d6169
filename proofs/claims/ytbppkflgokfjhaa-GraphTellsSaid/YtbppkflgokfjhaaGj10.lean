/- Texts joined: GpZ, GqA, GpM. -/
import Derived.Test.YtbppkflgokfjhaaGj09
import Derived.Deep.RegionHeld3
import Derived.Deep.LoopGhost
set_option linter.all false
namespace Go.Proofs.Ytbppkflgokfjhaa
open Go.RowKit Go.Maps Go.Sort
theorem kb_ok9 {n : Int} (h : okN n) : KB n := by unfold okN at h; unfold KB; omega
theorem nlz_al {n : Nat} {w : World} {o : Obj} (h : n ≤ w.heap.size) : n ≤ (w.alloc o).heap.size := Nat.le_trans h (by simp)
theorem nlz_d {n : Nat} {w : World} (h : n ≤ w.heap.size) : n ≤ w.drew.heap.size := h
def r2k (R2 : Int → List Int) (S : List Int) (an : Int) (k : Nat) : Int → List Int := fun r => if r ∈ S.take k then R2 r ++ [an] else R2 r
theorem r2k_zero (R2 : Int → List Int) (S : List Int) (an : Int) : r2k R2 S an 0 = R2 := funext fun r => by unfold r2k; simp
theorem r2k_next {R2 : Int → List Int} {S : List Int} {an r : Int} {k : Nat} (hd : S.Nodup) (h : S[k]? = some r) : r2k R2 S an k r = R2 r ∧ r2k R2 S an (k + 1) = fun y => if y = r then R2 r ++ [an] else r2k R2 S an k y := by
  have hno : r ∉ S.take k := fun hm => by
    obtain ⟨h1, h2⟩ := List.getElem?_eq_some_iff.1 h
    have e : S = S.take k ++ r :: S.drop (k + 1) := by rw [← h2, ← List.drop_eq_getElem_cons h1, List.take_append_drop]
    rw [e] at hd
    exact (List.nodup_append.1 hd).2.2 r hm r (by simp) rfl
  have hm : ∀ y, y ∈ S.take (k + 1) ↔ y ∈ S.take k ∨ y = r := fun y => by
    rw [List.take_add_one, h, List.mem_append]
    simp
  refine ⟨by unfold r2k; rw [if_neg hno], funext fun y => ?_⟩
  unfold r2k
  by_cases e : y = r
  · subst e
    simp [hm]
  · simp [hm, e]
def LkQ (base g b1 b2 n1 n2 : Nat) (f1 : Int → Option Sl) (R1 R2 : Int → List Int) (an : Int) (rd : List Int) (w : World) (e : Ending) (w' : World) : Prop := ∃ n2' f1' f2', e = .returned (.tuple #[]) ∧ GBm w' base g b1 b2 (n1 + 1) n2' f1' f2' (fun n => if n = an then rdsG rd else R1 n) (fun r => if r ∈ rdsG rd then R2 r ++ [an] else R2 r) ∧ n2' ≤ n2 + 60 ∧ (∀ n, (f1' n).isSome = true ↔ n = an ∨ (f1 n).isSome = true) ∧ Below b1 w w'
set_option maxHeartbeats 32000000 in
set_option maxRecDepth 10000 in
theorem link_any (w : World) (base g b1 b2 n1 n2 : Nat) (f1 f2 : Int → Option Sl) (R1 R2 : Int → List Int) (hG : GBm w base g b1 b2 n1 n2 f1 f2 R1 R2) (hR2 : ∀ r, (R2 r).length ≤ 100) (hb12 : b1 ≤ b2 ∧ b1 ≤ g) (hn1 : n1 ≤ 1000) (hn2 : n2 ≤ 100000) (an : Int) (rd : List Int) (RA : Option Addr) (rc : Nat) (ha : okN an) (hr : ∀ r ∈ rd, okN r) (hrl : rd.length ≤ 60) {Q : Nat → Prop} (hrow : RowI w Q RA rd) :
    Calls Try.prog 22 #[.pointer (some ⟨g, 0, none⟩), .agg #[.int .i64 an, .slice RA rd.length rc]] w fun e w' => LkQ base g b1 b2 n1 n2 f1 R1 R2 an rd w e w' := by
  obtain ⟨i0, hi0, hz0, hz1, hz2⟩ := info_parts gint_info
  obtain ⟨wa, hwa⟩ : ∃ wa, w.alloc (.cells #[.int .i64 an, .slice RA rd.length rc] 41) = wa := ⟨_, rfl⟩
  have hba : Below w.heap.size w wa := by rw [← hwa]; exact (Below.refl _ _).alloc (Nat.le_refl _) _
  have hza : wa.heap.size = w.heap.size + 1 := by rw [← hwa]; simp
  have hA0 : wa.cell? ⟨w.heap.size, 0, none⟩ = some (.int .i64 an) := by rw [← hwa]; simp [go_sem]
  have hA1 : wa.cell? ⟨w.heap.size, 1, none⟩ = some (.slice RA rd.length rc) := by rw [← hwa]; simp [go_sem]
  have HCl := Lib.hid (pclone_full rd RA rc wa Q (hrow.below hba) (by omega))
  have HG := Lib.hid (hG.below hba)
  have HB := Lib.hid hba
  have HA := Lib.hid ha
  have HR := Lib.hid hr
  have HR2 := Lib.hid hR2
  have hbw0 : base ≤ w.heap.size := hG.lt.2.2.2.2.2.2
  have HB0 : Hid (∀ k, hotG f2 k → k < w.heap.size) := Lib.hid fun k hk => (hG.hot hk).2
  clear hG hrow hba ha hr hR2
  go_enter Try.func22, Try.ntmps22
  go_wp2_with fail
  refine HCl.out.mono ?_; rintro e w2 ⟨O, co, rfl, hcase, hb2, hO⟩
  have hrow2 : rd.length ≤ co ∧ RowH w2 (fun k => wa.heap.size ≤ k) O rd := by
    rcases hcase with rfl | ⟨g2, rfl, _, _, h⟩
    · exact ⟨Nat.zero_le _, .inl rfl⟩
    · obtain ⟨A, cap, e, hk, _, hr⟩ := own_rowH h
      injection e with e1 _ e3
      rw [e1, e3]
      exact ⟨hk, hr⟩
  have HCo := Lib.hid hrow2.1
  have HSo := Lib.hid (sort_row rd O co w2 hrow2.2 (by omega) wa.heap.size (fun _ h => h) hb2.size)
  have HB2 := Lib.hid hb2
  have HO := Lib.hid hO
  clear hcase hb2 hO hrow2 HCl
  go_wp2_with fail
  refine HSo.out.mono ?_; rintro e w3 ⟨rfl, hr3, hb3, _⟩
  have hsl : (rd.mergeSort leI).length = rd.length := (List.mergeSort_perm rd leI).length_eq
  have HCm := Lib.hid (compact_row (rd.mergeSort leI) O co w3 hr3 (by have := HCo.out; omega) (by omega) wa.heap.size (fun _ h => h) (by have := HB2.out.size; have := hb3.size; omega))
  rw [hsl] at HCm
  have HB3 := Lib.hid (HB2.out.trans hb3)
  clear hr3 hb3 HSo HB2
  go_wp2_with fail
  refine HCm.out.mono ?_; rintro e w4 ⟨rfl, hr4, hb4⟩
  have hB4 := HB3.out.trans hb4
  obtain ⟨hm, hd, hl⟩ := rdsG_ok rd
  have hS : Lib.compact (rd.mergeSort leI) = rdsG rd := rfl
  rw [hS] at hr4 ⊢
  have HSok : Hid (∀ r ∈ rdsG rd, okN r) := Lib.hid fun r hrr => HR.out r ((hm r).1 hrr)
  have HSd := Lib.hid hd
  have hSl : (rdsG rd).length ≤ 60 := by omega
  have HG4 := Lib.hid (HG.out.below hB4)
  have HB4 := Lib.hid (HB.out.trans (hB4.mono (by omega)))
  have hc0 : w4.cell? ⟨w.heap.size, 0, none⟩ = some (.int .i64 an) := keep_cell hB4 hA0
  have hlw := HG.out.lt
  have hz4 : wa.heap.size ≤ w4.heap.size := hB4.size
  obtain ⟨s, hsv, hsl2⟩ : ∃ s : Sl, slE.val s = .slice O (rdsG rd).length co ∧ s.len = (rdsG rd).length := by
    rcases HO.out with rfl | ⟨g2, rfl⟩
    · exact ⟨⟨none, (rdsG rd).length, co⟩, rfl, rfl⟩
    · exact ⟨⟨some (g2, 0), (rdsG rd).length, co⟩, rfl, rfl⟩
  have hsa : s.addr = O := by
    have h1 : (Value.slice s.addr s.len s.cap) = .slice O (rdsG rd).length co := hsv
    injection h1
  have hnh : ∀ k, wa.heap.size ≤ k → ¬ hotG f2 k := fun k hk hh => by have := (HG.out.hot hh).2; omega
  have hnh0 : ¬ hotG f2 w.heap.size := fun hh => by
    have := HB0.out _ hh
    omega
  have hrs : RowS w4 (fun h => base ≤ h ∧ ¬ hotG f2 h) s (rdsG rd) := ⟨hsl2, by rw [hsa]; exact hr4.row.mono fun k hk _ => ⟨by omega, hnh k hk⟩⟩
  have hrs6 := hrs.below (Below.drew (Below.refl w4.heap.size w4))
  have hG6 := HG4.out.below (Below.drew (Below.refl w4.heap.size w4))
  obtain ⟨w5, hrun, hG5, hg5, hz5⟩ := hG6.put1 (x := an) (kb_ok9 HA.out) (by unfold maxLen; omega) hrs6
  rw [hsv] at hrun
  have HG5 := Lib.hid hG5
  have hz46 : w4.drew.heap.size = w4.heap.size := rfl
  have hk5 : ∀ k, k < w4.heap.size → k ≠ b1 → w5.heap[k]? = w4.heap[k]? := fun k hk hne => hg5.block k hk (fun e => hne (Option.some.inj e))
  have HC5 : Hid (w5.cell? ⟨w.heap.size, 0, none⟩ = some (.int .i64 an)) := Lib.hid ((World.cell?_of_block (w := w4) (hk5 w.heap.size (by omega) (by omega))).trans hc0)
  have hcc5 : w5.cell? ⟨g, 0, none⟩ = some (.map (some b1)) ∧ w5.cell? ⟨w.heap.size, 0, none⟩ = some (.int .i64 an) := ⟨hG5.c0, HC5.out⟩
  have HR5 : Hid (RowI w5 (fun k => wa.heap.size ≤ k) O (rdsG rd)) := Lib.hid (hr4.row.kept ⟨by omega, fun k hk hl => hk5 k hl (by omega)⟩)
  have HB5 : Hid (Below b1 w w5) := Lib.hid ⟨hg5.os.trans HB4.out.os, hg5.tape.trans HB4.out.tape, hg5.output.trans HB4.out.output, by have := HB4.out.size; omega, fun k hk => (hk5 k (by omega) (by omega)).trans (HB4.out.block k (by omega))⟩
  have HZ5 : Hid (wa.heap.size ≤ w5.heap.size) := Lib.hid (by omega)
  have HNh := Lib.hid hnh
  have HNh0 := Lib.hid hnh0
  have hcg := HG4.out.c0
  have HCd := Lib.hid (fun W (hb : Below w4.heap.size w4 W) => (show W.cell? ⟨g, 0, none⟩ = some (.map (some b1)) ∧ W.cell? ⟨w.heap.size, 0, none⟩ = some (.int .i64 an) from ⟨keep_cell hb hcg, keep_cell hb hc0⟩))
  clear hr4 hb4 hB4 hm hd hl hS hcg hc0 hrs hrs6 hG6 hG5 hg5 hk5 hnh hnh0 hsa hsl2 hsl HCm HB3
  go_wp2_with fail
  go_region_held3 (fun w' => w'.cell? ⟨g, 0, none⟩ = some (.map (some b1)) ∧ w'.cell? ⟨w.heap.size, 0, none⟩ = some (.int .i64 an))
    (first | with_reducible exact hcc5 | (exact HCd.out _ (by with_reducible repeat' (first | exact Below.refl _ _ | exact Nat.le_refl _ | refine Below.drew ?_ | refine Below.alloc ?_ ?_ _ | refine nlz_al ?_ | refine nlz_d ?_))) | fail)
    (first
    | (refine step_updm (by rfl) _ _ _ 46 (by rfl) (by rfl) (by rfl) (by rfl) hrun ?_)
    | fail)
  clear hrun hcc5 HCd hsv hz46 hz5 hz4 HG4 HB4 HG HA HR
  have HNo : Hid (∀ n, (updI f1 an s n).isSome = true ↔ n = an ∨ (f1 n).isSome = true) := Lib.hid fun n => by
    unfold updI
    by_cases e : n = an
    · rw [if_pos e]; exact ⟨fun _ => .inl e, fun _ => rfl⟩
    · rw [if_neg e]
      constructor
      · exact fun h => .inr h
      · rintro (h | h)
        · exact absurd h e
        · exact h
  have HG5b : Hid (GBm w5 base g b1 b2 (n1 + 1) (n2 + 0) (updI f1 an s) f2 (fun n => if n = an then rdsG rd else R1 n) (r2k R2 (rdsG rd) an 0)) := Lib.hid (by rw [r2k_zero]; exact HG5.out)
  have HEnd : Hid (∀ r, r2k R2 (rdsG rd) an (rdsG rd).length r = if r ∈ rdsG rd then R2 r ++ [an] else R2 r) := Lib.hid fun r => by unfold r2k; rw [List.take_length]
  obtain ⟨W55, hW55⟩ : ∃ W55, W55 = w5 := ⟨_, rfl⟩
  have HCold5 : Hid (∀ k, (k = w.heap.size ∨ ∃ o, O = some ⟨k, o, none⟩ ∧ wa.heap.size ≤ k) → k < w5.heap.size → ¬ hotG f2 k ∧ w5.heap[k]? = W55.heap[k]?) := Lib.hid fun k hk _ => ⟨by
    rcases hk with rfl | ⟨_, _, h⟩
    · exact HNh0.out
    · exact HNh.out k h, by rw [hW55]⟩
  have hbz := HB5.out.size
  have HZ5' := HZ5.out
  have HW0 : Hid (w.heap.size < w5.heap.size) := Lib.hid (by omega)
  clear HG5
  generalize updI f1 an s = f1' at *
  generalize hSS : rdsG rd = SS at *
  go_wp2_with fail
  go_loopw [23] (fun vk wx => ∃ (k : Nat) (f2' : Int → Option Sl), k ≤ SS.length ∧ vk = .int .i64 (k : Int) ∧ Hid (GBm wx base g b1 b2 (n1 + 1) (n2 + k) f1' f2' (fun n => if n = an then SS else R1 n) (r2k R2 SS an k)) ∧ Hid (∀ k, (k = w.heap.size ∨ ∃ o, O = some ⟨k, o, none⟩ ∧ wa.heap.size ≤ k) → k < w5.heap.size → ¬ hotG f2' k ∧ wx.heap[k]? = W55.heap[k]?) ∧ Hid (Below b1 w wx) ∧ Hid (w5.heap.size ≤ wx.heap.size)) (fun vk _ => SS.length - (RowKit.intOf vk).toNat)
  case atStart => exact ⟨0, f2, Nat.zero_le _, rfl, HG5b, HCold5, HB5, Lib.hid (Nat.le_refl _)⟩
  case round =>
    clear HG5b HCold5 HB5
    obtain ⟨k, f2', hk, rfl, HGk, HCo, HBk, HZk⟩ := hrel
    by_cases hkl : k < SS.length
    · obtain ⟨r, hr⟩ : ∃ r, SS[k]? = some r := ⟨_, List.getElem?_eq_getElem hkl⟩
      obtain ⟨e1, e2⟩ := r2k_next (R2 := R2) (an := an) HSd.out hr
      have hkr : KB r := kb_ok9 (HSok.out r (List.mem_of_getElem? hr))
      rcases HR5.out with hnil | ⟨gr, orr, rfl, hgp, hgl, hcr⟩
      · rw [hnil] at hkl; exact absurd hkl (Nat.not_lt_zero _)
      have hc9 : wr.cell? ⟨gr, orr + k, none⟩ = some (.int .i64 r) := (World.cell?_of_block (w := w5) ((HCo.out gr (.inr ⟨orr, rfl, hgp⟩) hgl).2.trans (by rw [hW55]))).trans (hcr k r hr)
      have hc8 : wr.cell? ⟨w.heap.size, 0, none⟩ = some (.int .i64 an) := (World.cell?_of_block (w := w5) ((HCo.out w.heap.size (.inl rfl) HW0.out).2.trans (by rw [hW55]))).trans HC5.out
      have hcg := HGk.out.c1
      have hI : (k : Int) < (SS.length : Int) := by omega
      have hJ : (0 : Int) ≤ (k : Int) := by omega
      have HC := Lib.hid (fun W (hb : Below wr.heap.size wr W) => (show W.cell? ⟨g, 1, none⟩ = some (.map (some b2)) ∧ W.cell? ⟨w.heap.size, 0, none⟩ = some (.int .i64 an) from ⟨keep_cell hb hcg, keep_cell hb hc8⟩))
      have HLk := Lib.hid (fun W (hb : Below wr.heap.size wr W) => (HGk.out.below hb).look2 hkr)
      have HOw := Lib.hid (HGk.out.o2 r)
      rw [e1] at HOw
      have hrl2 := HR2.out r
      have hbw := HGk.out.lt.2.2.2.2.2.2
      have hnh8 := (HCo.out w.heap.size (.inl rfl) HW0.out).1
      have hgcold : ¬ hotG f2' g := fun hh => by have := (HGk.out.hot hh).1; have := HGk.out.lt; omega
      have hlg := HGk.out.lt
      have hwr : w.heap.size < wr.heap.size := by have := HZk.out; have := HW0.out; omega
      have HWr := Lib.hid hwr
      clear hr hcr hc8 hcg
      go_wp2_with fail
      clear hc9
      go_region_held3 (fun w' => w'.cell? ⟨g, 1, none⟩ = some (.map (some b2)) ∧ w'.cell? ⟨w.heap.size, 0, none⟩ = some (.int .i64 an))
        (first | with_reducible exact hcc6 | with_reducible exact hcc4 | (exact HC.out _ (by with_reducible repeat' (first | exact Below.refl _ _ | exact Nat.le_refl _ | refine Below.drew ?_ | refine Below.alloc ?_ ?_ _ | refine nlz_al ?_ | refine nlz_d ?_))) | fail)
        (first
        | (refine upon_run (HLk.out _ (by with_reducible repeat' (first | exact Below.refl _ _ | exact Nat.le_refl _ | refine Below.drew ?_ | refine Below.alloc ?_ ?_ _ | refine nlz_al ?_ | refine nlz_d ?_))) ?_)
        | (refine step_append_all (by rfl) _ _ (by rfl) (by rfl) (OwnR.below HOw.out (by with_reducible repeat' (first | exact Below.refl _ _ | exact Nat.le_refl _ | refine Below.drew ?_ | refine Below.alloc ?_ ?_ _ | refine nlz_al ?_ | refine nlz_d ?_))) (L2 := [an]) (by rfl) (by first | exact one_rowI _ _ | exact (one_rowI _ _).below (Below.drew (Below.refl _ _))) (Z := R2 r ++ [an]) (by rfl) hi0 hz0 hz1 hz2 rfl (by simp; omega) (by with_reducible repeat' (first | exact hbw | refine nlz_al ?_ | refine nlz_d ?_)) ?_
           intro v4 w4 ho4 hg4 hat4
           rw [← e1] at ho4
           obtain ⟨w6, s', rfl, hrun, hG6, hz6, hk6, hos6, htp6, hou6⟩ := HGk.out.put2 hkr (by unfold maxLen; omega) (by first | exact Below.drew ((Below.refl _ _).alloc (Nat.le_refl _) _) | exact (Below.drew (Below.refl _ _)).alloc (Nat.le_refl _) _) hg4 ho4 hat4
           have hcc4 : w4.cell? ⟨g, 1, none⟩ = some (.map (some b2)) ∧ w4.cell? ⟨w.heap.size, 0, none⟩ = some (.int .i64 an) := by
             have h1 := HC.out wr (Below.refl _ _)
             exact ⟨(World.cell?_of_block (w := wr) ((hg4.block g (Nat.lt_of_lt_of_le (by omega : g < wr.heap.size) (by with_reducible repeat' (first | exact Nat.le_refl _ | refine nlz_al ?_ | refine nlz_d ?_))) (fun e => hgcold (hot_get e.symm))).trans ((show RowKit.Below wr.heap.size wr _ from (by first | exact Below.drew ((Below.refl _ _).alloc (Nat.le_refl _) _) | exact (Below.drew (Below.refl _ _)).alloc (Nat.le_refl _) _)).block g (by omega)))).trans h1.1, (World.cell?_of_block (w := wr) ((hg4.block w.heap.size (Nat.lt_of_lt_of_le hwr (by with_reducible repeat' (first | exact Nat.le_refl _ | refine nlz_al ?_ | refine nlz_d ?_))) (fun e => hnh8 (hot_get e.symm))).trans ((show RowKit.Below wr.heap.size wr _ from (by first | exact Below.drew ((Below.refl _ _).alloc (Nat.le_refl _) _) | exact (Below.drew (Below.refl _ _)).alloc (Nat.le_refl _) _)).block w.heap.size hwr))).trans h1.2⟩
           have hcc6 : w6.cell? ⟨g, 1, none⟩ = some (.map (some b2)) ∧ w6.cell? ⟨w.heap.size, 0, none⟩ = some (.int .i64 an) := by
             have h1 := HC.out wr (Below.refl _ _)
             exact ⟨hG6.c1, (World.cell?_of_block (w := wr) (hk6 w.heap.size (by omega) hnh8 (by omega)).1).trans h1.2⟩
           have HG6 := Lib.hid hG6
           have HZ6 := Lib.hid hz6
           have HK6 := Lib.hid hk6
           have HO6 := Lib.hid (And.intro hos6 (And.intro htp6 hou6))
           clear hG6 hz6 hk6 hos6 htp6 hou6 ho4 hg4 hat4)
        | (refine step_updm (by rfl) _ _ _ 46 (by rfl) (by rfl) (by rfl) (by rfl) hrun ?_)
        | fail)
      all_goals
        have HGn : Hid (GBm w6 base g b1 b2 (n1 + 1) (n2 + (k + 1)) f1' (updI f2' r s') (fun n => if n = an then SS else R1 n) (r2k R2 SS an (k + 1))) := Lib.hid (by
          have := HG6.out
          rw [e1] at this
          rw [e2]; exact this)
        have HCn : Hid (∀ q, (q = w.heap.size ∨ ∃ o, some (⟨gr, orr, none⟩ : Addr) = some ⟨q, o, none⟩ ∧ wa.heap.size ≤ q) → q < w5.heap.size → ¬ hotG (updI f2' r s') q ∧ w6.heap[q]? = W55.heap[q]?) := Lib.hid fun q hq hl => by
          have h1 := HCo.out q hq hl
          have h2 := HK6.out q (by have := HZk.out; omega) h1.1 (by rcases hq with rfl | ⟨_, _, h⟩ <;> omega)
          exact ⟨h2.2, h2.1.trans h1.2⟩
        have HBn : Hid (Below b1 w w6) := Lib.hid ⟨HO6.out.1.trans HBk.out.os, HO6.out.2.1.trans HBk.out.tape, HO6.out.2.2.trans HBk.out.output, by have := HBk.out.size; have := HZ6.out; omega, fun q hq => (HK6.out q (by omega) (fun hh => by have := (HGk.out.hot hh).1; omega) (by omega)).1.trans (HBk.out.block q hq)⟩
        have HZn : Hid (w5.heap.size ≤ w6.heap.size) := Lib.hid (by have := HZ6.out; have := HZk.out; omega)
        clear hrun hcc4 hcc6 HG6 HK6 HO6 HZ6 HCo HGk HBk HZk HLk HC HOw
        go_wp2_with fail
        go_roundw
        case rel => exact ⟨k + 1, _, by omega, by go_num, HGn, HCn, HBn, HZn⟩
        case measure => simp [RowKit.intOf]; omega
    · have hkk : k = SS.length := by omega
      subst hkk
      have HGn : Hid (GBm wr base g b1 b2 (n1 + 1) (n2 + SS.length) f1' f2' (fun n => if n = an then SS else R1 n) (fun r => if r ∈ SS then R2 r ++ [an] else R2 r)) := Lib.hid (by
        rw [← show r2k R2 SS an SS.length = (fun r => if r ∈ SS then R2 r ++ [an] else R2 r) from funext HEnd.out]
        exact HGk.out)
      clear HGk HCo HZk
      go_wp2_with fail
      go_end0
      exact ⟨n2 + SS.length, f1', f2', rfl, by rw [hSS]; exact HGn.out, by omega, HNo.out, HBk.out⟩
end Go.Proofs.Ytbppkflgokfjhaa
namespace Go.Proofs.Ytbppkflgokfjhaa
open Go.RowKit Go.Maps Go.Sort
theorem ed_app {L : List Lk} {x : Lk} {n y : Int} : Ed (L ++ [x]) n y ↔ Ed L n y ∨ (n = x.at_ ∧ y ∈ x.rd) := by
  constructor
  · rintro ⟨z, hz, rfl, hy⟩
    rcases List.mem_append.1 hz with h | h
    · exact .inl ⟨z, h, rfl, hy⟩
    · obtain rfl : z = x := by simpa using h
      exact .inr ⟨rfl, hy⟩
  · rintro (⟨z, hz, e, hy⟩ | ⟨rfl, hy⟩)
    · exact ⟨z, List.mem_append.2 (.inl hz), e, hy⟩
    · exact ⟨x, List.mem_append.2 (.inr (List.mem_singleton.2 rfl)), rfl, hy⟩
theorem isN_app {L : List Lk} {x : Lk} {n : Int} : isN (L ++ [x]) n ↔ n = x.at_ ∨ isN L n := by
  constructor
  · rintro ⟨z, hz, rfl⟩
    rcases List.mem_append.1 hz with h | h
    · exact .inr ⟨z, h, rfl⟩
    · obtain rfl : z = x := by simpa using h
      exact .inl rfl
  · rintro (rfl | ⟨z, hz, e⟩)
    · exact ⟨x, List.mem_append.2 (.inr (List.mem_singleton.2 rfl)), rfl⟩
    · exact ⟨z, List.mem_append.2 (.inl hz), e⟩
theorem RdOK.start : RdOK [] (fun _ => []) (fun _ => []) := ⟨fun n y => ⟨fun h => (by cases h), fun ⟨z, hz, _⟩ => (by cases hz)⟩, fun _ => Nat.zero_le _, fun y n => ⟨fun h => (by cases h), fun ⟨z, hz, _⟩ => (by cases hz)⟩, fun _ => List.nodup_nil⟩
theorem RdOK.next {L : List Lk} {R1 R2 : Int → List Int} (h : RdOK L R1 R2) {x : Lk} (hn : ¬ isN L x.at_) (hl : x.rd.length ≤ 60) : RdOK (L ++ [x]) (fun n => if n = x.at_ then rdsG x.rd else R1 n) (fun r => if r ∈ rdsG x.rd then R2 r ++ [x.at_] else R2 r) := by
  obtain ⟨hm, hd, hle⟩ := rdsG_ok x.rd
  refine ⟨fun n y => ?_, fun n => ?_, fun y n => ?_, fun y => ?_⟩
  · show y ∈ (if n = x.at_ then rdsG x.rd else R1 n) ↔ _
    rw [ed_app]
    by_cases e : n = x.at_
    · rw [if_pos e, hm y]
      constructor
      · exact fun q => .inr ⟨e, q⟩
      · rintro (q | q)
        · exact absurd (e ▸ q.node) hn
        · exact q.2
    · rw [if_neg e, h.r1]
      constructor
      · exact fun q => .inl q
      · rintro (q | q)
        · exact q
        · exact absurd q.1 e
  · show (if n = x.at_ then rdsG x.rd else R1 n).length ≤ 60
    split
    · omega
    · exact h.l1 n
  · show n ∈ (if y ∈ rdsG x.rd then R2 y ++ [x.at_] else R2 y) ↔ _
    rw [ed_app]
    by_cases e : y ∈ rdsG x.rd
    · rw [if_pos e, List.mem_append, h.r2, List.mem_singleton]
      constructor
      · rintro (q | q)
        · exact .inl q
        · exact .inr ⟨q, (hm y).1 e⟩
      · rintro (q | q)
        · exact .inl q
        · exact .inr q.1
    · rw [if_neg e, h.r2]
      constructor
      · exact fun q => .inl q
      · rintro (q | q)
        · exact q
        · exact absurd ((hm y).2 q.2) e
  · show (if y ∈ rdsG x.rd then R2 y ++ [x.at_] else R2 y).Nodup
    split
    · refine List.nodup_append.2 ⟨h.d2 y, by simp, fun a ha b hb e => ?_⟩
      obtain rfl : b = x.at_ := by simpa using hb
      subst e
      exact hn ((h.r2 y _).1 ha).node
    · exact h.d2 y
theorem GBm.graph {w : World} {base g b1 b2 n1 n2 : Nat} {f1 f2 : Int → Option Sl} {R1 R2 : Int → List Int} {L : List Lk} (h : GBm w base g b1 b2 n1 n2 f1 f2 R1 R2) (hn : ∀ n, (f1 n).isSome = true ↔ isN L n) (hr : RdOK L R1 R2) : GP12 w g L :=
  ⟨b1, b2, n1, n2, f1, f2, R1, R2, {
    c0 := h.c0
    c1 := h.c1
    lt := by have := h.lt; omega
    m1 := h.m1
    m2 := h.m2
    nod := hn
    s1 := fun n => ⟨(h.s1 n).len, (h.s1 n).row.lts⟩
    s2 := fun n => by
      obtain ⟨A, cap, e, _, hrow⟩ := own_rowG (h.o2 n)
      injection e with e1 e2 e3
      exact ⟨e2, by rw [← e1] at hrow; exact hrow.lts⟩
    ok := hr }⟩
theorem take_lk {l : List LkM} {i : Nat} {q : LkM} (h : l[i]? = some q) : lkS (l.take (i + 1)) = lkS (l.take i) ++ [q.k] := by
  unfold lkS
  rw [List.take_add_one, h, List.map_append]
  rfl
def NewQ (w : World) (l : List LkM) (e : Ending) (w' : World) : Prop := Below w.heap.size w w' ∧ ((mayC (lkS l) = 0 ∧ ∃ g, e = .returned (.tuple #[.pointer (some ⟨g, 0, none⟩), .int .i64 0]) ∧ GP12 w' g (lkS l)) ∨ (mayC (lkS l) ≠ 0 ∧ e = .returned (.tuple #[.pointer none, .int .i64 (mayC (lkS l) : Nat)])))
theorem NewQ.bad {w w' : World} {l : List LkM} {c : Int} {n : Nat} (h : mayC (lkS l) = n) (hn : n ≠ 0) (hc : c = (n : Int)) (hb : Below w.heap.size w w') : NewQ w l (.returned (.tuple #[.pointer none, .int .i64 c])) w' := ⟨hb, .inr ⟨by omega, by rw [h, hc]⟩⟩
set_option maxHeartbeats 32000000 in
set_option maxRecDepth 10000 in
theorem pnew_any (w : World) (l : List LkM) (A : Option Addr) (ca : Nat) (P : Nat → Prop) (hl : RowL w P A l) (hll : l.length ≤ 60) (hrl : ∀ q ∈ l, q.rd.length ≤ 60) :
    Calls Try.prog 7 #[.slice A l.length ca] w fun e w' => NewQ w l e w' := by
  have hmm := @run_makeMap Try.prog
  have HC := Lib.hid (contL_any l A ca w hl (by omega) (fun q hq => by have := hrl q hq; omega))
  have HL := Lib.hid hl
  have HRl := Lib.hid hrl
  clear hl hrl
  go_enter Try.func7, Try.ntmps7
  go_wp2_with fail
  refine HC.out.mono ?_; rintro e w1 ⟨rfl, hb1⟩
  have HB1 := Lib.hid hb1
  clear hb1 HC
  cases hbad : l.any badM with
  | true =>
    have HM := Lib.hid (bads_yes hbad)
    go_wp2_with fail
    go_ret2
    exact NewQ.bad HM.out (by decide) rfl HB1.out
  | false =>
    have HK := Lib.hid (bads_no hbad)
    clear hbad
    obtain ⟨W3, hW3⟩ : ∃ W3, ((w1.alloc (.map #[] 0)).alloc (.map #[] 0)).alloc (.cells #[.map (some w1.heap.size), .map (some (w1.heap.size + 1))] 48) = W3 := ⟨_, rfl⟩
    have hz3 : W3.heap.size = w1.heap.size + 3 := by rw [← hW3]; simp
    have hb3 : Below w1.heap.size w1 W3 := by rw [← hW3]; exact (((Below.refl _ _).alloc (Nat.le_refl _) _).alloc (by simp) _).alloc (by simp; omega) _
    have hm1 : MapI slE W3 w1.heap.size 0 (fun _ => none) := by
      rw [← hW3]
      exact (MapI.made slE w1).below (((Below.refl _ _).alloc (Nat.le_refl _) _).alloc (by simp) _)
    have hm2 : MapI slE W3 (w1.heap.size + 1) 0 (fun _ => none) := by
      have h := MapI.made slE (w1.alloc (.map #[] 0))
      rw [show (w1.alloc (.map #[] 0)).heap.size = w1.heap.size + 1 from by simp] at h
      rw [← hW3]
      exact h.below ((Below.refl _ _).alloc (Nat.le_refl _) _)
    have hG3 : GBm W3 (w1.heap.size + 3) (w1.heap.size + 1 + 1) w1.heap.size (w1.heap.size + 1) 0 0 (fun _ => none) (fun _ => none) (fun _ => []) (fun _ => []) := {
      c0 := by rw [← hW3]; simp [go_sem]
      c1 := by rw [← hW3]; simp [go_sem]
      lt := by omega
      m1 := hm1
      m2 := hm2
      s1 := fun n => RowS.none _ _
      o2 := fun r => World.ownsRow_nil _ _ _ _
      ap := fun r r' _ => Apart.nil _ }
    have HG3 := Lib.hid hG3
    have HB3 := Lib.hid (HB1.out.trans (hb3.mono HB1.out.size))
    have hzw := HB1.out.size
    have HHb := Lib.hid hb3
    clear hm1 hm2 hG3 hb3
    go_wp2_with fail
    generalize hg : w1.heap.size + 1 + 1 = g at *
    generalize hb2 : w1.heap.size + 1 = b2 at *
    generalize hbs : w1.heap.size + 3 = base at *
    generalize hb1 : w1.heap.size = b1 at *
    clear hmm
    go_loopw [17] (fun vi wr => ∃ (i n1 n2 : Nat) (f1 f2 : Int → Option Sl) (R1 R2 : Int → List Int), i ≤ l.length ∧ vi = .int .i64 (i : Int) ∧ Hid (GBm wr base g b1 b2 n1 n2 f1 f2 R1 R2) ∧ Hid (∀ n, (f1 n).isSome = true ↔ isN (lkS (l.take i)) n) ∧ Hid (RdOK (lkS (l.take i)) R1 R2) ∧ Hid (DisL (lkS (l.take i))) ∧ Hid (n1 ≤ i ∧ n2 ≤ 60 * i) ∧ Hid (Below w.heap.size w wr)) (fun vi _ => l.length - (RowKit.intOf vi).toNat)
    case atStart => exact ⟨0, 0, 0, _, _, _, _, Nat.zero_le _, rfl, HG3, Lib.hid (fun n => ⟨fun h => (by cases h), fun ⟨z, hz, _⟩ => (by simp [lkS] at hz)⟩), Lib.hid (by rw [List.take_zero]; exact RdOK.start), Lib.hid (by rw [List.take_zero]; exact List.Pairwise.nil), Lib.hid ⟨Nat.le_refl _, Nat.le_refl _⟩, HB3⟩
    case round =>
      clear HG3 HB3
      obtain ⟨i, n1, n2, f1, f2, R1, R2, hi, rfl, HG, HNo, HRd, HDi, HNn, HB⟩ := hrel
      by_cases hlt : i < l.length
      · obtain ⟨q, hq⟩ : ∃ q, l[i]? = some q := ⟨_, List.getElem?_eq_getElem hlt⟩
        obtain ⟨ga, oa, rfl, hpa, hla, hat⟩ := HL.out.at hlt
        obtain ⟨⟨q0, q1⟩, hrq⟩ := hat i q hq
        have hqm := List.mem_of_getElem? hq
        have hk0 := HK.out q.k (List.mem_map.2 ⟨q, hqm, rfl⟩)
        have hql := HRl.out q hqm
        have HT := Lib.hid (take_lk hq)
        have HDn := Lib.hid (fun h => disM_next hq HDi.out h)
        have HDx := Lib.hid (fun (k : Nat) (x : LkM) (hk : k < i) (hx : l[k]? = some x) (e : x.at_ = q.at_) => disM_not hk hx hq e)
        have HRq := Lib.hid hrq
        obtain ⟨an, rd, RA, rc⟩ := q
        dsimp only at hql hk0
        have c0 := keep_cell HB.out q0
        have c1 := keep_cell HB.out q1
        have hka : KB an := kb_ok9 hk0.1
        obtain ⟨wv, hwv⟩ : ∃ wv, wr.alloc (.cells #[.int .i64 an, .slice RA rd.length rc] 41) = wv := ⟨_, rfl⟩
        have hbv : Below wr.heap.size wr wv := by rw [← hwv]; exact (Below.refl _ _).alloc (Nat.le_refl _) _
        have hv0 : wv.cell? ⟨wr.heap.size, 0, none⟩ = some (.int .i64 an) := by rw [← hwv]; simp [go_sem]
        have hv1 : wv.cell? ⟨wr.heap.size, 1, none⟩ = some (.slice RA rd.length rc) := by rw [← hwv]; simp [go_sem]
        have hgc := HG.out.c0
        have HGv := Lib.hid (HG.out.below hbv)
        have HBv := Lib.hid (HB.out.trans (hbv.mono HB.out.size))
        have hI : (i : Int) < (l.length : Int) := by omega
        have hJ : (0 : Int) ≤ (i : Int) := by omega
        have HCd := Lib.hid (fun W (hb : Below wv.heap.size wv W) => (show W.cell? ⟨g, 0, none⟩ = some (.map (some b1)) ∧ W.cell? ⟨wr.heap.size, 0, none⟩ = some (.int .i64 an) from ⟨keep_cell hb (keep_cell hbv hgc), keep_cell hb hv0⟩))
        have HLk := Lib.hid (fun W (hb : Below wv.heap.size wv W) => (HGv.out.below hb).look1 hka)
        have hv1d : wv.drew.cell? ⟨wr.heap.size, 1, none⟩ = some (.slice RA rd.length rc) := hv1
        have hv0d : wv.drew.cell? ⟨wr.heap.size, 0, none⟩ = some (.int .i64 an) := hv0
        have HI0 : Hid (Try.prog.info? 41 = Try.prog.info? 41) := Lib.hid rfl
        clear hat q0 q1 hrq hq hqm HG HB hgc hv0 hv1 hbv hla
        go_wp2_with fail
        clear c0 c1
        go_region_held3 (fun w' => w'.cell? ⟨g, 0, none⟩ = some (.map (some b1)) ∧ w'.cell? ⟨wr.heap.size, 0, none⟩ = some (.int .i64 an))
          (first | (exact HCd.out _ (by with_reducible repeat' (first | exact Below.refl _ _ | exact Nat.le_refl _ | refine Below.drew ?_ | refine Below.alloc ?_ ?_ _ | refine nlz_al ?_ | refine nlz_d ?_))) | fail)
          (first
          | (refine upon_run (HLk.out _ (by with_reducible repeat' (first | exact Below.refl _ _ | exact Nat.le_refl _ | refine Below.drew ?_ | refine Below.alloc ?_ ?_ _ | refine nlz_al ?_ | refine nlz_d ?_))) ?_)
          | fail)
        have hbd : Below wv.heap.size wv wv.drew := Below.drew (Below.refl _ _)
        have HGd := Lib.hid (HGv.out.below hbd)
        have HBd := Lib.hid (HBv.out.trans (hbd.mono HBv.out.size))
        have HRr := Lib.hid (HRq.out.below HBd.out)
        clear hbd HGv HBv HCd HLk HRq
        generalize wv.drew = wd at *
        cases hs : (f1 an).isSome with
        | true =>
          have HM : Hid (mayC (lkS l) = 5) := Lib.hid (by
            obtain ⟨x, hx, e⟩ := (HNo.out an).1 hs
            obtain ⟨q, hqm, rfl⟩ := List.mem_map.1 hx
            obtain ⟨k, hk⟩ := List.mem_iff_getElem?.1 hqm
            rw [List.getElem?_take] at hk
            split at hk
            · rename_i hki
              exact may_twice HK.out (HDx.out k q hki hk e)
            · cases hk)
          clear HGd HDx HDn
          go_wp2_with fail
          go_ret2
          exact NewQ.bad HM.out (by decide) rfl HBd.out
        | false =>
          have hno : ¬ isN (lkS (l.take i)) an := fun h => by have := (HNo.out an).2 h; rw [hs] at this; cases this
          have HRn := Lib.hid (HRd.out.next (x := ⟨an, rd⟩) hno hql)
          have HNd := Lib.hid (HDn.out fun x hx e => hno ⟨x.k, List.mem_map.2 ⟨x, hx, rfl⟩, e⟩)
          have HLn := Lib.hid (link_any wd base g b1 b2 n1 n2 f1 f2 R1 R2 HGd.out (fun r => by
            have h1 := HRd.out.l2 r
            have h2 : (lkS (l.take i)).length ≤ 60 := by unfold lkS; rw [List.length_map, List.length_take]; omega
            omega) (by omega) (by have := HNn.out; omega) (by have := HNn.out; omega) an rd RA rc hk0.1 hk0.2 hql HRr.out)
          have hb1w : w.heap.size ≤ b1 := by omega
          clear HGd hno HDx HDn HRd HDi hs
          go_wp2_with fail
          refine HLn.out.mono ?_; rintro e w8 ⟨n2', f1', f2', rfl, hG8, hn8, hf8, hb8⟩
          have HG8 := Lib.hid hG8
          have HB8 := Lib.hid (HBd.out.trans (hb8.mono hb1w))
          have HNo8 : Hid (∀ n, (f1' n).isSome = true ↔ isN (lkS (l.take (i + 1))) n) := Lib.hid fun n => by
            rw [hf8 n, HT.out, isN_app, HNo.out n]
            exact Iff.rfl
          have HRn8 : Hid (RdOK (lkS (l.take (i + 1))) (fun n => if n = an then rdsG rd else R1 n) (fun r => if r ∈ rdsG rd then R2 r ++ [an] else R2 r)) := Lib.hid (by rw [HT.out]; exact HRn.out)
          have HNn8 : Hid (n1 + 1 ≤ i + 1 ∧ n2' ≤ 60 * (i + 1)) := Lib.hid (by have := HNn.out; omega)
          clear hG8 hn8 hf8 hb8 HLn HRn HNo HNn HT
          go_wp2_with fail
          go_roundw
          case rel => exact ⟨i + 1, n1 + 1, n2', f1', f2', _, _, by omega, by go_num, HG8, HNo8, HRn8, HNd, HNn8, HB8⟩
          case measure => simp [RowKit.intOf]; omega
      · have hii : i = l.length := by omega
        subst hii
        have hno := HNo.out
        have hrd := HRd.out
        have hdi := HDi.out
        rw [List.take_length] at hno hrd hdi
        have HF : Hid (NewQ w l (.returned (.tuple #[.pointer (some ⟨g, 0, none⟩), .int .i64 0])) wr) := Lib.hid ⟨HB.out, .inl ⟨may_ok HK.out hdi, g, rfl, HG.out.graph hno hrd⟩⟩
        clear HG HNo HRd HDi HB hno hrd hdi
        go_wp2_with fail
        go_ret2
        exact HF.out
end Go.Proofs.Ytbppkflgokfjhaa
namespace Go.Proofs.Ytbppkflgokfjhaa
def cntW (R2 : Int → List Int) (l : List Int) (r : Int) : Int := (l.countP fun n => decide (r ∈ R2 n) : Nat)
def one01 (b : Bool) : Int := if b then 1 else 0
theorem cntW_nil (R2 : Int → List Int) (r : Int) : cntW R2 [] r = 0 := rfl
theorem cntW_app (R2 : Int → List Int) (a b : List Int) (r : Int) : cntW R2 (a ++ b) r = cntW R2 a r + cntW R2 b r := by
  unfold cntW
  rw [List.countP_append]; omega
theorem cntW_one (R2 : Int → List Int) (n r : Int) : cntW R2 [n] r = one01 (decide (r ∈ R2 n)) := by
  unfold cntW one01
  by_cases h : r ∈ R2 n <;> simp [h]
theorem cntW_pos (R2 : Int → List Int) (l : List Int) (r : Int) : 0 ≤ cntW R2 l r ∧ cntW R2 l r ≤ l.length := by
  unfold cntW
  have := List.countP_le_length (p := fun n => decide (r ∈ R2 n)) (l := l)
  omega
theorem cntW_zero {R2 : Int → List Int} {l : List Int} {r : Int} : cntW R2 l r = 0 ↔ ∀ n ∈ l, r ∉ R2 n := by
  unfold cntW
  rw [show ((l.countP fun n => decide (r ∈ R2 n) : Nat) : Int) = 0 ↔ (l.countP fun n => decide (r ∈ R2 n)) = 0 from by omega, List.countP_eq_zero]
  simp
theorem take_cut {l : List Int} {i : Nat} {x : Int} (h : l[i]? = some x) : l = l.take i ++ x :: l.drop (i + 1) := by
  obtain ⟨h1, rfl⟩ := List.getElem?_eq_some_iff.1 h
  rw [← List.drop_eq_getElem_cons h1, List.take_append_drop]
theorem cntW_take {R2 : Int → List Int} {l : List Int} {i : Nat} {n : Int} (h : l[i]? = some n) (r : Int) : cntW R2 (l.take (i + 1)) r = cntW R2 (l.take i) r + one01 (decide (r ∈ R2 n)) := by
  rw [List.take_add_one, h, cntW_app]
  rw [show (some n).toList = [n] from rfl, cntW_one]
theorem cntW_cut {R2 : Int → List Int} {l : List Int} {i : Nat} {n : Int} (h : l[i]? = some n) (r : Int) : cntW R2 (l.take i ++ l.drop (i + 1)) r = cntW R2 l r - one01 (decide (r ∈ R2 n)) := by
  have e := take_cut h
  have e2 : cntW R2 l r = cntW R2 (l.take i ++ n :: l.drop (i + 1)) r := congrArg (fun q => cntW R2 q r) e
  rw [e2, show l.take i ++ n :: l.drop (i + 1) = l.take i ++ ([n] ++ l.drop (i + 1)) from rfl, cntW_app, cntW_app, cntW_app, cntW_one]
  omega
def winc (W : Int → Int) (R : List Int) (k : Nat) (s : Int) : Int → Int := fun r => W r + s * one01 (decide (r ∈ R.take k))
theorem winc_zero (W : Int → Int) (R : List Int) (s : Int) : winc W R 0 s = W := funext fun r => by unfold winc one01; simp
theorem winc_next {W : Int → Int} {R : List Int} {k : Nat} {r0 : Int} (hd : R.Nodup) (h : R[k]? = some r0) (s : Int) : winc W R (k + 1) s = fun y => if y = r0 then winc W R k s r0 + s else winc W R k s y := funext fun y => by
  have hno : r0 ∉ R.take k := fun hm => by
    have e := take_cut h
    rw [e] at hd
    exact (List.nodup_append.1 hd).2.2 r0 hm r0 (by simp) rfl
  have hm : y ∈ R.take (k + 1) ↔ y ∈ R.take k ∨ y = r0 := by
    rw [List.take_add_one, h, List.mem_append]
    simp
  unfold winc one01
  by_cases e : y = r0
  · subst e
    simp [hm, hno]
  · simp [hm, e]
theorem winc_all (W : Int → Int) (R : List Int) (s : Int) (r : Int) : winc W R R.length s r = W r + s * one01 (decide (r ∈ R)) := by unfold winc; rw [List.take_length]
theorem least_of {P : Int → Prop} {S : List Int} (hS : S.Pairwise (· < ·)) (hall : ∀ m, P m → m ∈ S) {i : Nat} {n : Int} (hn : S[i]? = some n) (hr : 0 ≤ n ∧ n < 1024) (hno : ∀ m ∈ S.take i, ¬ P m) (hp : P n) : leastN P 1024 = some n := by
  obtain ⟨k, rfl⟩ : ∃ k : Nat, n = (k : Int) := ⟨n.toNat, by omega⟩
  refine least_yes (least_none.2 fun m h0 h1 hm => ?_) hp (by omega)
  obtain ⟨j, hj⟩ := List.mem_iff_getElem?.1 (hall m hm)
  have hji : j < i := by
    obtain ⟨hj1, ej⟩ := List.getElem?_eq_some_iff.1 hj
    obtain ⟨hi1, ei⟩ := List.getElem?_eq_some_iff.1 hn
    by_cases q : j < i
    · exact q
    · have : i < j ∨ i = j := by omega
      rcases this with c | c
      · have := List.pairwise_iff_getElem.1 hS i j hi1 hj1 c
        rw [ei, ej] at this
        omega
      · subst c
        rw [hn] at hj
        have := Option.some.inj hj
        omega
  exact hno m (List.mem_iff_getElem?.2 ⟨j, by rw [List.getElem?_take, if_pos hji]; exact hj⟩) hm
structure OrdS (L : List Lk) (told lf : List Int) : Prop where
  tl : Told L told
  od : ordF L 1024 (1025 - told.length) told = ordG L 1024
  lv : lf = (strG L).filter fun n => !decide (n ∈ told)
theorem OrdS.start (L : List Lk) : OrdS L [] (strG L) := ⟨Told.nil L, rfl, (List.filter_eq_self.2 fun a _ => by simp).symm⟩
section
variable {L : List Lk} {told lf : List Int} {R2 : Int → List Int}
theorem OrdS.mem (hk : OkK L) (h : OrdS L told lf) {n : Int} : n ∈ lf ↔ (isN L n ∧ ¬ cycN L n) ∧ n ∉ told := by
  rw [h.lv, List.mem_filter, strG_mem hk]
  simp
theorem OrdS.rise (h : OrdS L told lf) : lf.Pairwise (· < ·) := by
  rw [h.lv]
  exact (strG_rise L).filter _
theorem OrdS.rdy (hk : OkK L) (h : OrdS L told lf) (hR : ∀ y n, n ∈ R2 y ↔ Ed L n y) {x : Int} (hx : x ∈ lf) : rdyN L told x ↔ cntW R2 lf x = 0 := by
  rw [cntW_zero]
  have hx2 := (h.mem hk).1 hx
  constructor
  · rintro ⟨_, _, _, h4⟩ n hn hr
    have hn2 := (h.mem hk).1 hn
    obtain ⟨y, hy, e, hyr⟩ := (hR n x).1 hr
    exact hn2.2 (h4 y hy e n hyr hn2.1.1 hn2.1.2)
  · intro hz
    refine ⟨hx2.1.1, hx2.1.2, hx2.2, fun y hy e r hr h1 h2 => ?_⟩
    by_cases ht : r ∈ told
    · exact ht
    · exact absurd ((hR r x).2 ⟨y, hy, e, hr⟩) (hz r ((h.mem hk).2 ⟨⟨h1, h2⟩, ht⟩))
theorem OrdS.next (hk : OkK L) (h : OrdS L told lf) (hR : ∀ y n, n ∈ R2 y ↔ Ed L n y) {i : Nat} {x : Int} (hx : lf[i]? = some x) (h0 : cntW R2 lf x = 0) (hno : ∀ m ∈ lf.take i, cntW R2 lf m ≠ 0) : OrdS L (told ++ [x]) (lf.take i ++ lf.drop (i + 1)) := by
  have hxm := List.mem_of_getElem? hx
  have hr := (h.rdy hk hR hxm).2 h0
  have hl := least_of (P := rdyN L told) h.rise (fun m hm => (h.mem hk).2 ⟨⟨hm.1, hm.2.1⟩, hm.2.2.1⟩) hx (node_range hk hr.1) (fun m hm hrm => hno m hm ((h.rdy hk hR (List.mem_of_mem_take hm)).1 hrm)) hr
  have htl := told_len hk h.tl
  refine ⟨h.tl.next hr, ?_, ?_⟩
  · have h1 := h.od
    rw [show 1025 - told.length = (1025 - (told ++ [x]).length) + 1 from by simp; omega, ordF_some hl] at h1
    exact h1
  · have e := take_cut hx
    have hnd : lf.Nodup := h.rise.imp fun {a b} hab => by omega
    have h2 : lf.filter (fun n => !decide (n = x)) = lf.take i ++ lf.drop (i + 1) := by
      have hnd2 := hnd
      rw [e] at hnd2
      obtain ⟨n1, n2, n3⟩ := List.nodup_append.1 hnd2
      have hA : (lf.take i).filter (fun n => !decide (n = x)) = lf.take i := List.filter_eq_self.2 fun a ha => by
        have := n3 a ha x (by simp)
        simpa using this
      have hB : (lf.drop (i + 1)).filter (fun n => !decide (n = x)) = lf.drop (i + 1) := List.filter_eq_self.2 fun a ha => by
        have := (List.nodup_cons.1 n2).1
        have : a ≠ x := fun e => this (e ▸ ha)
        simpa using this
      have e3 : lf.filter (fun n => !decide (n = x)) = (lf.take i ++ x :: lf.drop (i + 1)).filter (fun n => !decide (n = x)) := congrArg (fun q => q.filter fun n => !decide (n = x)) e
      rw [e3, List.filter_append, List.filter_cons, hA, hB]
      simp
    rw [← h2, h.lv, List.filter_filter]
    refine List.filter_congr fun n _ => ?_
    by_cases a : n ∈ told <;> by_cases b : n = x <;> simp [a, b]
theorem OrdS.done (hk : OkK L) (h : OrdS L told lf) (hR : ∀ y n, n ∈ R2 y ↔ Ed L n y) (hno : ∀ m ∈ lf, cntW R2 lf m ≠ 0) : told = ordG L 1024 := by
  have hl : leastN (rdyN L told) 1024 = none := least_none.2 fun m _ _ hm => by
    have hml : m ∈ lf := (h.mem hk).2 ⟨⟨hm.1, hm.2.1⟩, hm.2.2.1⟩
    exact hno m hml ((h.rdy hk hR hml).1 hm)
  have htl := told_len hk h.tl
  have h1 := h.od
  rw [show 1025 - told.length = (1024 - told.length) + 1 from by omega, ordF, hl] at h1
  exact h1
theorem OrdS.len (h : OrdS L told lf) : lf.length ≤ 1024 := by
  rw [h.lv]
  exact Nat.le_trans (List.length_filter_le _ _) (strG_len L)
end
end Go.Proofs.Ytbppkflgokfjhaa
