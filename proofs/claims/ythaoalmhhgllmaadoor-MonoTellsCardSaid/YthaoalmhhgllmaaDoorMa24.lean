/- Texts joined: MoV. -/
import Derived.Test.YthaoalmhhgllmaaDoorMa23
import Derived.Test.YthaoalmhhgllmaaDoorMa21
set_option linter.all false
namespace Go.Proofs.YthaoalmhhgllmaaDoor
open Go.RowKit
structure GK (t : Tr) (l : List Kno) : Prop where
  wid : Wid t
  fit : Fit t
  len : l.length ≤ maxLen
  plc : ∀ q ∈ l, B64 q.c ∧ B64 q.r
theorem fits_cnt {t : Tr} (h : fitsB t = true) : cntT t ≤ 1000000 := by
  have h1 := (fits_iff.1 h).1
  have h2 := szT_cnt t 400 (by decide) h1
  omega
theorem mway_info : (Tryd.prog.info? 31).map (fun i => (i.zero, i.size, i.bytes)) = some (some (.int .i64 0), 1, 8) := by kernel_rfl
theorem int_info8 : (Tryd.prog.info? 3).map (fun i => (i.zero, i.size, i.bytes)) = some (some (.int .i64 0), 1, 8) := by kernel_rfl
def fI (x : Int) : List Value := [.int .i64 x]
theorem fI_one : ∀ q : Int, ∀ u ∈ fI q, u.oneCell' = true := by
  intro q u hu
  simp only [fI, List.mem_cons, List.not_mem_nil, or_false] at hu
  rw [hu]; rfl
set_option maxHeartbeats 8000000 in
set_option maxRecDepth 100000 in
theorem motells_no (t : Tr) (l : List Kno) (x : Int) (hg : GK t l) (w : World) (A : Option Addr) (ca : Nat) (LA : Option Addr) (lc : Nat) (hA : KVc w (fun _ => True) t A ca) (hc : ListK w LA l) {B : Nat} (hSB : B ≤ w.heap.size) (hSt : Strs B B w) (hno : fitsB t = false ∨ 300 < l.length) :
    Calls Tryd.prog 3 #[tv t A ca, .slice LA l.length lc, .int .i64 x] w fun e w' => e = .returned (.bool true) ∧ Below w.heap.size w w' := by
  have HK := Lib.hid (fun w' (hb : Below (w.heap.size + 1) (w.alloc (.cells #[.int .i64 t.kind, .int .i64 t.num, .int .i64 t.c1, .int .i64 t.r1, .int .i64 t.c2, .int .i64 t.r2, .string ⟨t.word.toArray⟩, .slice A t.kids.length ca] 29)) w') => show Below w.heap.size w w' from ((Below.refl _ _).alloc (Nat.le_refl _) _).trans (hb.mono (by omega)))
  have HB0 : Hid (Below (w.heap.size + 1) (w.alloc (.cells #[.int .i64 t.kind, .int .i64 t.num, .int .i64 t.c1, .int .i64 t.r1, .int .i64 t.c2, .int .i64 t.r2, .string ⟨t.word.toArray⟩, .slice A t.kids.length ca] 29)) (w.alloc (.cells #[.int .i64 t.kind, .int .i64 t.num, .int .i64 t.c1, .int .i64 t.r1, .int .i64 t.c2, .int .i64 t.r2, .string ⟨t.word.toArray⟩, .slice A t.kids.length ca] 29))) := Lib.hid (Below.refl _ _)
  have HL : Hid (∀ w', Below (w.heap.size + 1) (w.alloc (.cells #[.int .i64 t.kind, .int .i64 t.num, .int .i64 t.c1, .int .i64 t.r1, .int .i64 t.c2, .int .i64 t.r2, .string ⟨t.word.toArray⟩, .slice A t.kids.length ca] 29)) w' → w'.cell? ⟨w.heap.size, 0, none⟩ = some (.int .i64 t.kind) ∧ w'.cell? ⟨w.heap.size, 1, none⟩ = some (.int .i64 t.num) ∧ w'.cell? ⟨w.heap.size, 2, none⟩ = some (.int .i64 t.c1) ∧ w'.cell? ⟨w.heap.size, 3, none⟩ = some (.int .i64 t.r1) ∧ w'.cell? ⟨w.heap.size, 4, none⟩ = some (.int .i64 t.c2) ∧ w'.cell? ⟨w.heap.size, 5, none⟩ = some (.int .i64 t.r2) ∧ w'.cell? ⟨w.heap.size, 6, none⟩ = some (.string ⟨t.word.toArray⟩) ∧ w'.cell? ⟨w.heap.size, 7, none⟩ = some (.slice A t.kids.length ca)) := Lib.hid fun w' hb => (parT hb).1
  have HFi := Lib.hid (fun w' (hb : Below (w.heap.size + 1) (w.alloc (.cells #[.int .i64 t.kind, .int .i64 t.num, .int .i64 t.c1, .int .i64 t.r1, .int .i64 t.c2, .int .i64 t.r2, .string ⟨t.word.toArray⟩, .slice A t.kids.length ca] 29)) w') => lfits_any t hg.wid w' A ca ((hA.below (HK.out w' hb)).kv))
  have HAl := Lib.hid (fun w' (hb : Below (w.heap.size + 1) (w.alloc (.cells #[.int .i64 t.kind, .int .i64 t.num, .int .i64 t.c1, .int .i64 t.r1, .int .i64 t.c2, .int .i64 t.r2, .string ⟨t.word.toArray⟩, .slice A t.kids.length ca] 29)) w') => malive w' (B := B) (Nat.le_trans hSB (HK.out w' hb).size) (hSt.later hSB (HK.out w' hb)))
  have hlen := hg.wid.len
  have hll := hg.len
  unfold maxLen at hlen hll
  unfold tv at *
  clear hA hc hSB hSt hg
  generalize fitsB t = F at *
  have hd : F = true → decide ((300 : Int) < (l.length : Int)) = true := fun h => decide_eq_true (by rcases hno with e | e; rw [h] at e; cases e; omega)
  clear hno
  cases F with
  | false =>
    clear hd
    go_enter Tryd.func3, Tryd.ntmps3
    go_wp2_with fail
    refine Calls.mono (HFi.out _ HB0.out) ?_; rintro e w1 ⟨rfl, b1⟩
    have HB1 := Lib.hid (HB0.out.trans (b1.mono (by simp)))
    clear b1
    go_wp2_with fail
    refine Calls.mono (HAl.out _ HB1.out) ?_; rintro e w2 ⟨rfl, b2⟩
    have HB2 := Lib.hid (HB1.out.trans (b2.mono (by have := HB1.out.size; simpa using this)))
    clear b2
    go_wp2_with fail
    go_ret
    exact ⟨rfl, HK.out _ HB2.out⟩
  | true =>
    have hd := hd rfl
    go_enter Tryd.func3, Tryd.ntmps3
    go_wp2_with fail
    refine Calls.mono (HFi.out _ HB0.out) ?_; rintro e w1 ⟨rfl, b1⟩
    have HB1 := Lib.hid (HB0.out.trans (b1.mono (by simp)))
    clear b1
    go_wp2_with fail
    refine Calls.mono (HAl.out _ HB1.out) ?_; rintro e w2 ⟨rfl, b2⟩
    have HB2 := Lib.hid (HB1.out.trans (b2.mono (by have := HB1.out.size; simpa using this)))
    clear b2
    go_wp2_with fail
    go_ret
    exact ⟨rfl, HK.out _ HB2.out⟩
set_option maxHeartbeats 8000000 in
set_option maxRecDepth 100000 in
theorem motells_yes (t : Tr) (l : List Kno) (x : Int) (hg : GK t l) (w : World) (A : Option Addr) (ca : Nat) (LA : Option Addr) (lc : Nat) (hA : KVc w (fun _ => True) t A ca) (hc : ListK w LA l) {B : Nat} (hSB : B ≤ w.heap.size) (hSt : Strs B B w) (hf : fitsB t = true) (hn : ¬ 300 < l.length) :
    Calls Tryd.prog 3 #[tv t A ca, .slice LA l.length lc, .int .i64 x] w fun e w' => e = .returned (.bool true) ∧ Below w.heap.size w w' := by
  have HK := Lib.hid (fun w' (hb : Below (w.heap.size + 1) (w.alloc (.cells #[.int .i64 t.kind, .int .i64 t.num, .int .i64 t.c1, .int .i64 t.r1, .int .i64 t.c2, .int .i64 t.r2, .string ⟨t.word.toArray⟩, .slice A t.kids.length ca] 29)) w') => show Below w.heap.size w w' from ((Below.refl _ _).alloc (Nat.le_refl _) _).trans (hb.mono (by omega)))
  have HB0 : Hid (Below (w.heap.size + 1) (w.alloc (.cells #[.int .i64 t.kind, .int .i64 t.num, .int .i64 t.c1, .int .i64 t.r1, .int .i64 t.c2, .int .i64 t.r2, .string ⟨t.word.toArray⟩, .slice A t.kids.length ca] 29)) (w.alloc (.cells #[.int .i64 t.kind, .int .i64 t.num, .int .i64 t.c1, .int .i64 t.r1, .int .i64 t.c2, .int .i64 t.r2, .string ⟨t.word.toArray⟩, .slice A t.kids.length ca] 29))) := Lib.hid (Below.refl _ _)
  have HL : Hid (∀ w', Below (w.heap.size + 1) (w.alloc (.cells #[.int .i64 t.kind, .int .i64 t.num, .int .i64 t.c1, .int .i64 t.r1, .int .i64 t.c2, .int .i64 t.r2, .string ⟨t.word.toArray⟩, .slice A t.kids.length ca] 29)) w' → w'.cell? ⟨w.heap.size, 0, none⟩ = some (.int .i64 t.kind) ∧ w'.cell? ⟨w.heap.size, 1, none⟩ = some (.int .i64 t.num) ∧ w'.cell? ⟨w.heap.size, 2, none⟩ = some (.int .i64 t.c1) ∧ w'.cell? ⟨w.heap.size, 3, none⟩ = some (.int .i64 t.r1) ∧ w'.cell? ⟨w.heap.size, 4, none⟩ = some (.int .i64 t.c2) ∧ w'.cell? ⟨w.heap.size, 5, none⟩ = some (.int .i64 t.r2) ∧ w'.cell? ⟨w.heap.size, 6, none⟩ = some (.string ⟨t.word.toArray⟩) ∧ w'.cell? ⟨w.heap.size, 7, none⟩ = some (.slice A t.kids.length ca)) := Lib.hid fun w' hb => (parT hb).1
  have HFi := Lib.hid (fun w' (hb : Below (w.heap.size + 1) (w.alloc (.cells #[.int .i64 t.kind, .int .i64 t.num, .int .i64 t.c1, .int .i64 t.r1, .int .i64 t.c2, .int .i64 t.r2, .string ⟨t.word.toArray⟩, .slice A t.kids.length ca] 29)) w') => lfits_any t hg.wid w' A ca ((hA.below (HK.out w' hb)).kv))
  have HAl := Lib.hid (fun w' (hb : Below (w.heap.size + 1) (w.alloc (.cells #[.int .i64 t.kind, .int .i64 t.num, .int .i64 t.c1, .int .i64 t.r1, .int .i64 t.c2, .int .i64 t.r2, .string ⟨t.word.toArray⟩, .slice A t.kids.length ca] 29)) w') => malive w' (B := B) (Nat.le_trans hSB (HK.out w' hb).size) (hSt.later hSB (HK.out w' hb)))
  have HE := Lib.hid (fun w' (hb : Below (w.heap.size + 1) (w.alloc (.cells #[.int .i64 t.kind, .int .i64 t.num, .int .i64 t.c1, .int .i64 t.r1, .int .i64 t.c2, .int .i64 t.r2, .string ⟨t.word.toArray⟩, .slice A t.kids.length ca] 29)) w') => mOf_any (l := l) (by have := hn; unfold maxLen; omega) hg.plc t hg.wid hg.fit (fits_cnt hf) w' A ca LA lc (hA.below (HK.out w' hb)) (hc.below (HK.out w' hb)) (S := B) (Nat.le_trans hSB (HK.out w' hb).size) (hSt.later hSB (HK.out w' hb)))
  have HR := Lib.hid (fun w' (hb : Below (w.heap.size + 1) (w.alloc (.cells #[.int .i64 t.kind, .int .i64 t.num, .int .i64 t.c1, .int .i64 t.r1, .int .i64 t.c2, .int .i64 t.r2, .string ⟨t.word.toArray⟩, .slice A t.kids.length ca] 29)) w') D dc (hD : ListK w' D l) => wOf_any (l := l) hg.len t hg.wid hg.fit (fits_cnt hf) (Nat.le_trans (fits_deep hf) (by decide)) w' A ca D dc ((hA.below (HK.out w' hb)).kv) hD)
  have HLo := Lib.hid (fun w' (hb : Below (w.heap.size + 1) (w.alloc (.cells #[.int .i64 t.kind, .int .i64 t.num, .int .i64 t.c1, .int .i64 t.r1, .int .i64 t.c2, .int .i64 t.r2, .string ⟨t.word.toArray⟩, .slice A t.kids.length ca] 29)) w') => lof_any l (by omega) LA lc w' (hc.below (HK.out w' hb)))
  have HLc := Lib.hid (fun w' (hb : Below (w.heap.size + 1) (w.alloc (.cells #[.int .i64 t.kind, .int .i64 t.num, .int .i64 t.c1, .int .i64 t.r1, .int .i64 t.c2, .int .i64 t.r2, .string ⟨t.word.toArray⟩, .slice A t.kids.length ca] 29)) w') => hc.below (HK.out w' hb))
  obtain ⟨L, hL⟩ : ∃ L, L = l.map (·.w) := ⟨_, rfl⟩
  have hLl : L.length = l.length := by rw [hL, List.length_map]
  have HLn : Hid (∀ (i : Nat) (q : Kno), l[i]? = some q → L.take (i + 1) = L.take i ++ [q.w]) := Lib.hid fun i q hq => by rw [List.take_add_one, hL, List.getElem?_map, hq]; rfl
  have HJ : Hid (∀ w' D dc, ListI w' D L → Calls Tryd.prog 10 #[.slice D l.length dc] w' fun e w2 => e = .returned (.int .i64 (joinL L)) ∧ Below w'.heap.size w' w2) := Lib.hid fun w' D dc hD => by have h := mjoin_any L (by unfold maxLen; omega) D dc w' hD; rwa [hLl] at h
  have HRJ : Hid (∀ w' D dc, ListI w' D L → Calls Tryd.prog 11 #[.slice D l.length dc] w' fun e w2 => e = .returned (.int .i64 (joinL L)) ∧ Below w'.heap.size w' w2) := Lib.hid fun w' D dc hD => by have h := wjoin_any L (by unfold maxLen; omega) D dc w' hD; rwa [hLl] at h
  have HF := Lib.hid (fun w' => mflip_any x w')
  have HRF := Lib.hid (fun w' => wflip_any x w')
  have hlen := hg.wid.len
  unfold maxLen at hlen
  have hd : decide ((300 : Int) < (l.length : Int)) = false := decide_eq_false (by omega)
  rw [hf] at HFi
  unfold tv at *
  clear hA hc hSB hSt hg hf hL
  generalize owV l t = X at *
  generalize joinL L = Y at *
  generalize flipW x = Z at *
  obtain ⟨i0, hi0, hz0, hz1, hz2⟩ := info_parts mway_info
  obtain ⟨i1, hi1, hy0, hy1, hy2⟩ := info_parts int_info8
  go_enter Tryd.func3, Tryd.ntmps3
  go_wp2_with fail
  refine Calls.mono (HFi.out _ HB0.out) ?_; rintro e w1 ⟨rfl, b1⟩
  have HB1 := Lib.hid (HB0.out.trans (b1.mono (by simp)))
  have z1 : (w.heap.size + 1) ≤ w1.heap.size := by have := HB1.out.size; simpa using this
  clear b1 HFi HB0
  go_wp2_with fail
  go_loopw [8, 9, 10] (fun v u n wr => ∃ i : Nat, i ≤ l.length ∧ n = .int .i64 (i : Int) ∧ OwnR 31 1 fI w1.heap.size wr v (L.take i) ∧ OwnR 3 1 fI w1.heap.size wr u (L.take i) ∧ Apart v u ∧ Below w1.heap.size w1 wr) (fun _ _ n _ => l.length - (intOf n).toNat)
  case atStart => exact ⟨0, Nat.zero_le _, rfl, World.ownsRow_nil _ _ _ _, World.ownsRow_nil _ _ _ _, Apart.nil _, Below.refl _ _⟩
  case round =>
    obtain ⟨i, hi, rfl, hov, hou, hap, hbel⟩ := hrel
    have HV := Lib.hid hov
    have HU := Lib.hid hou
    have HP := Lib.hid hap
    have zs := hbel.size
    clear hov hou hap
    by_cases hlt : i < l.length
    · obtain ⟨q, hq⟩ : ∃ q, l[i]? = some q := ⟨_, List.getElem?_eq_getElem hlt⟩
      obtain ⟨g, o, rfl, hat⟩ := (HLc.out wr (HB1.out.trans (hbel.mono z1))) (by rintro rfl; simp at hlt)
      obtain ⟨_, _, c2⟩ := AtK.get hat hq
      have HT := Lib.hid (HLn.out i q hq)
      have ht : (L.take i).length ≤ 1000000 := by rw [List.length_take]; omega
      have HQ := Lib.hid hq
      have ht6 : (L.take i).length = i := by rw [List.length_take]; omega
      have zg : g < wr.heap.size := Lib.lt_of_cell c2
      clear hat hq
      go_wp2_with (at_builtin; refine of_stop ?_)
      refine stop_of ?_
      refine wpList_append_row _ (by rfl) _ _ (by rfl) (by rfl) (w0 := wr) (q := q.w) (by rfl) HV.out (by rfl) Tryd.underlying34 hi0 hz0 hz1 hz2 rfl (by decide) (by decide) (fun _ => rfl) fI_one ht zs ?_
      intro v' w6 hown6 hg6 hat6
      have hb6 := hbel.grown hg6 zs (fun k hk => (World.ownsRow.lt HV.out k hk).1)
      have HV6 := Lib.hid hown6
      have HU6 := Lib.hid (OwnR.beside HU.out hg6 HP.out)
      have HP6 := Lib.hid (OwnR.apart HU.out HP.out hat6)
      obtain ⟨g', o', eg, hat'⟩ := (HLc.out w6 (HB1.out.trans (hb6.mono z1))) (by rintro rfl; simp at hlt)
      cases eg
      obtain ⟨_, _, d2⟩ := AtK.get hat' HQ.out
      clear hat' hown6 hg6 hat6 HV HU HP c2
      have zs6 := hb6.size
      have zg6 : g < w6.heap.size := Lib.lt_of_cell d2
      go_wp2_with (at_builtin; refine of_stop ?_)
      refine stop_of ?_
      refine wpList_append_row _ (by rfl) _ _ (by rfl) (by rfl) (w0 := w6) (q := q.w) (by rfl) HU6.out (by rfl) Tryd.underlying35 hi1 hy0 hy1 hy2 rfl (by decide) (by decide) (fun _ => rfl) fI_one ht zs6 ?_
      intro u' w7 hown7 hg7 hat7
      have hb7 := hb6.grown hg7 zs6 (fun k hk => (World.ownsRow.lt HU6.out k hk).1)
      have HU7 := Lib.hid hown7
      have HV7 := Lib.hid (OwnR.beside HV6.out hg7 HP6.out.symm)
      have HP7 := Lib.hid (OwnR.apart HV6.out HP6.out.symm hat7).symm
      rw [← HT.out] at HU7 HV7
      clear hown7 hg7 hat7 HV6 HU6 HP6 d2 hb6 zs6 hbel zs ht
      go_wp2_with fail
      go_roundw
      case rel => exact ⟨i + 1, by omega, by go_num, HV7.out, HU7.out, HP7.out, hb7⟩
      case measure => simp [intOf]; omega
    · have hii : i = L.length := by omega
      subst hii
      have HV1 := Lib.hid HV.out
      have HU1 := Lib.hid HU.out
      rw [List.take_length] at HV1 HU1
      obtain ⟨VA, vc, rfl, _, hv⟩ := OwnR.shape (f := fI) (fun _ => rfl) HV1.out
      obtain ⟨UA, uc, rfl, _, hu⟩ := OwnR.shape (f := fI) (fun _ => rfl) HU1.out
      have HV2 : Hid (ListI wr VA L) := Lib.hid hv
      have HU2 : Hid (ListI wr UA L) := Lib.hid hu
      have HBr := Lib.hid (HB1.out.trans (hbel.mono z1))
      have zr : (w.heap.size + 1) ≤ wr.heap.size := Nat.le_trans z1 hbel.size
      clear HV HU HV1 HU1 hv hu hbel zs HP HLn HLc
      have HW := Lib.hid (fun w' (hb : Below wr.heap.size wr w') => HBr.out.trans (hb.mono zr))
      have P0 : Hid (∀ w', Below wr.heap.size wr w' → w'.cell? ⟨w.heap.size, 0, none⟩ = some (.int .i64 t.kind) ∧ w'.cell? ⟨w.heap.size, 1, none⟩ = some (.int .i64 t.num) ∧ w'.cell? ⟨w.heap.size, 2, none⟩ = some (.int .i64 t.c1) ∧ w'.cell? ⟨w.heap.size, 3, none⟩ = some (.int .i64 t.r1) ∧ w'.cell? ⟨w.heap.size, 4, none⟩ = some (.int .i64 t.c2) ∧ w'.cell? ⟨w.heap.size, 5, none⟩ = some (.int .i64 t.r2) ∧ w'.cell? ⟨w.heap.size, 6, none⟩ = some (.string ⟨t.word.toArray⟩) ∧ w'.cell? ⟨w.heap.size, 7, none⟩ = some (.slice A t.kids.length ca)) := Lib.hid fun w' hb => HL.out w' (HW.out w' hb)
      have P1 : Hid (∀ w', Below wr.heap.size wr w' → Calls Tryd.prog 6 #[] w' fun e w2 => e = .returned (.bool true) ∧ Below wr.heap.size wr w2) := Lib.hid fun w' hb => (HAl.out w' (HW.out w' hb)).mono fun e w2 h => ⟨h.1, hb.trans (h.2.mono hb.size)⟩
      have P2 : Hid (∀ w', Below wr.heap.size wr w' → Calls Tryd.prog 7 #[.agg #[.int .i64 t.kind, .int .i64 t.num, .int .i64 t.c1, .int .i64 t.r1, .int .i64 t.c2, .int .i64 t.r2, .string ⟨t.word.toArray⟩, .slice A t.kids.length ca], .slice LA l.length lc] w' fun e w2 => e = .returned (.int .i64 X) ∧ Below wr.heap.size wr w2) := Lib.hid fun w' hb => (HE.out w' (HW.out w' hb)).mono fun e w2 h => ⟨h.1, hb.trans (h.2.mono hb.size)⟩
      have P3 : Hid (∀ w', Below wr.heap.size wr w' → Calls Tryd.prog 9 #[.slice LA l.length lc] w' fun e w2 => ∃ D dc, e = .returned (.slice D l.length dc) ∧ ListK w2 D l ∧ Below wr.heap.size wr w2) := Lib.hid fun w' hb => (HLo.out w' (HW.out w' hb)).mono fun e w2 ⟨D, dc, h0, h1, h2⟩ => ⟨D, dc, h0, h1, hb.trans (h2.mono hb.size)⟩
      have P4 : Hid (∀ w' D dc, ListK w' D l → Below wr.heap.size wr w' → Calls Tryd.prog 8 #[.agg #[.int .i64 t.kind, .int .i64 t.num, .int .i64 t.c1, .int .i64 t.r1, .int .i64 t.c2, .int .i64 t.r2, .string ⟨t.word.toArray⟩, .slice A t.kids.length ca], .slice D l.length dc] w' fun e w2 => e = .returned (.int .i64 X) ∧ Below wr.heap.size wr w2) := Lib.hid fun w' D dc hD hb => (HR.out w' (HW.out w' hb) D dc hD).mono fun e w2 h => ⟨h.1, hb.trans (h.2.mono hb.size)⟩
      have P5 : Hid (∀ w', Below wr.heap.size wr w' → Calls Tryd.prog 10 #[.slice VA l.length vc] w' fun e w2 => e = .returned (.int .i64 Y) ∧ Below wr.heap.size wr w2) := Lib.hid fun w' hb => (HJ.out w' VA vc (ListI.below HV2.out hb)).mono fun e w2 h => ⟨h.1, hb.trans (h.2.mono hb.size)⟩
      have P6 : Hid (∀ w', Below wr.heap.size wr w' → Calls Tryd.prog 11 #[.slice UA l.length uc] w' fun e w2 => e = .returned (.int .i64 Y) ∧ Below wr.heap.size wr w2) := Lib.hid fun w' hb => (HRJ.out w' UA uc (ListI.below HU2.out hb)).mono fun e w2 h => ⟨h.1, hb.trans (h.2.mono hb.size)⟩
      have P7 : Hid (∀ w', Below wr.heap.size wr w' → Calls Tryd.prog 12 #[.int .i64 x] w' fun e w2 => e = .returned (.int .i64 Z) ∧ Below wr.heap.size wr w2) := Lib.hid fun w' hb => (HF.out w').mono fun e w2 h => ⟨h.1, hb.trans (h.2.mono hb.size)⟩
      have P8 : Hid (∀ w', Below wr.heap.size wr w' → Calls Tryd.prog 13 #[.int .i64 x] w' fun e w2 => e = .returned (.int .i64 Z) ∧ Below wr.heap.size wr w2) := Lib.hid fun w' hb => (HRF.out w').mono fun e w2 h => ⟨h.1, hb.trans (h.2.mono hb.size)⟩
      have PE := Lib.hid (fun w' hb => HK.out w' (HW.out w' hb))
      clear HW HL HAl HE HLo HR HJ HRJ HF HRF HV2 HU2 HBr HK HB1
      go_wp2_with fail
      go_wp2_with fail
      go_region_held3 (fun w' => w'.cell? ⟨w.heap.size, 0, none⟩ = some (.int .i64 t.kind) ∧ w'.cell? ⟨w.heap.size, 1, none⟩ = some (.int .i64 t.num) ∧ w'.cell? ⟨w.heap.size, 2, none⟩ = some (.int .i64 t.c1) ∧ w'.cell? ⟨w.heap.size, 3, none⟩ = some (.int .i64 t.r1) ∧ w'.cell? ⟨w.heap.size, 4, none⟩ = some (.int .i64 t.c2) ∧ w'.cell? ⟨w.heap.size, 5, none⟩ = some (.int .i64 t.r2) ∧ w'.cell? ⟨w.heap.size, 6, none⟩ = some (.string ⟨t.word.toArray⟩) ∧ w'.cell? ⟨w.heap.size, 7, none⟩ = some (.slice A t.kids.length ca))
        (with_reducible exact P0.out _ (by with_reducible repeat' (first | exact Below.refl _ _ | exact b2 | exact b3 | exact b4 | exact b5 | exact b6 | exact b7 | exact b8 | exact b9 | refine Below.drew ?_)))
        (first
        | (have hB := b8; clear hB; go_at_call 13; refine Calls.mono (P8.out _ (by with_reducible repeat' (first | exact b8 | refine Below.drew ?_))) ?_; rintro e w9 ⟨rfl, b9⟩)
        | (have hB := b7; clear hB; go_at_call 12; refine Calls.mono (P7.out _ (by with_reducible repeat' (first | exact b7 | refine Below.drew ?_))) ?_; rintro e w8 ⟨rfl, b8⟩)
        | (have hB := b6; clear hB; go_at_call 11; refine Calls.mono (P6.out _ (by with_reducible repeat' (first | exact b6 | refine Below.drew ?_))) ?_; rintro e w7 ⟨rfl, b7⟩)
        | (have hB := b5; clear hB; go_at_call 10; refine Calls.mono (P5.out _ (by with_reducible repeat' (first | exact b5 | refine Below.drew ?_))) ?_; rintro e w6 ⟨rfl, b6⟩)
        | (have hB := hD4; clear hB; go_at_call 8; refine Calls.mono (P4.out _ _ _ (hD4.below (by with_reducible repeat' (first | exact Below.refl _ _ | refine Below.drew ?_))) (by with_reducible repeat' (first | exact b4 | refine Below.drew ?_))) ?_; rintro e w5 ⟨rfl, b5⟩; clear hD4)
        | (have hB := b3; clear hB; go_at_call 9; refine Calls.mono (P3.out _ (by with_reducible repeat' (first | exact b3 | refine Below.drew ?_))) ?_; rintro e w4 ⟨D4, dc4, rfl, hD4, b4⟩)
        | (have hB := b2; clear hB; go_at_call 7; refine Calls.mono (P2.out _ (by with_reducible repeat' (first | exact b2 | refine Below.drew ?_))) ?_; rintro e w3 ⟨rfl, b3⟩)
        | (go_at_call 6; refine Calls.mono (P1.out _ (by with_reducible repeat' (first | exact Below.refl _ _ | refine Below.drew ?_))) ?_; rintro e w2 ⟨rfl, b2⟩)
        | fail)
      all_goals
        go_wp2_with fail
        go_ret
        exact ⟨rfl, PE.out _ b9⟩
theorem motells_any (t : Tr) (l : List Kno) (x : Int) (hg : GK t l) (w : World) (A : Option Addr) (ca : Nat) (LA : Option Addr) (lc : Nat) (hA : KVc w (fun _ => True) t A ca) (hc : ListK w LA l) {B : Nat} (hSB : B ≤ w.heap.size) (hSt : Strs B B w) :
    Calls Tryd.prog 3 #[tv t A ca, .slice LA l.length lc, .int .i64 x] w fun e w' => e = .returned (.bool true) ∧ Below w.heap.size w w' := by
  by_cases hf : fitsB t = true
  · by_cases hn : 300 < l.length
    · exact motells_no t l x hg w A ca LA lc hA hc hSB hSt (.inr hn)
    · exact motells_yes t l x hg w A ca LA lc hA hc hSB hSt hf hn
  · exact motells_no t l x hg w A ca LA lc hA hc hSB hSt (.inl (by simpa using hf))
end Go.Proofs.YthaoalmhhgllmaaDoor
