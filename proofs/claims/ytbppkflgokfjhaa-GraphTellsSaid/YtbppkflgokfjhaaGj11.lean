/- Texts joined: GpO, GpQ, GrE. -/
import Derived.Test.YtbppkflgokfjhaaGj10
import Derived.Test.YtbppkflgokfjhaaGj03
import Derived.Deep.LoopGhost
set_option linter.all false
namespace Go.Proofs.Ytbppkflgokfjhaa
open Go.RowKit Go.Maps Go.Sort Go.Shelf Go.Lib
def ArI (V : World) (B : Nat) (W : Int → Int) : Prop := Ar 67 (Value.int .i64) V B W
theorem waits_zero : Try.zeroCells67 = Array.replicate 1024 (.int .i64 0) := by kernel_rfl
set_option maxHeartbeats 4000000 in
set_option maxRecDepth 10000 in
theorem ord_gives (W : Int → Int) (B : Nat) (V : World) (hM : ArI V B W) (j : Fin 1024) :
    FnGives Try.prog 33 #[.pointer (some ⟨B, 0, none⟩)] #[.int .i64 ((j.val : Nat) : Int)] (.bool (decide (W ((j.val : Nat) : Int) = 0))) V := by
  show Calls Try.prog 33 #[.int .i64 ((j.val : Nat) : Int), .pointer (some ⟨B, 0, none⟩)] V _
  obtain ⟨c0, _⟩ := hM.cell j.isLt
  have hj := j.isLt
  generalize (j.val : Nat) = n at *
  generalize hW : W (n : Int) = x at *
  have he : (x == 0) = decide (x = 0) := by by_cases h : x = 0 <;> simp [h]
  clear hM hW
  go_enter Try.func33, Try.ntmps33
  go_wp2_with fail
  go_ret
  exact ⟨by first | rfl | rw [he] | simp [he], 0, rfl⟩
theorem idx_cases {α : Type} (eq : α → α → Bool) (x : α) : ∀ (zs : List α) (i : Nat), (idxByFrom eq x zs i = -1 ∧ ∀ y ∈ zs, eq x y = false) ∨ ∃ k y, idxByFrom eq x zs i = ((i + k : Nat) : Int) ∧ zs[k]? = some y ∧ eq x y = true ∧ ∀ m ∈ zs.take k, eq x m = false
  | [], _ => .inl ⟨rfl, fun y h => by cases h⟩
  | z :: zs, i => by
    by_cases h : eq x z = true
    · exact .inr ⟨0, z, by simp [idxByFrom, h], rfl, h, fun m hm => by simp at hm⟩
    · have h : eq x z = false := by simpa using h
      rcases idx_cases eq x zs (i + 1) with ⟨h1, h2⟩ | ⟨k, y, h1, h2, h3, h4⟩
      · exact .inl ⟨by simp [idxByFrom, h, h1], fun y hy => by rcases List.mem_cons.1 hy with rfl | hy; exact h; exact h2 y hy⟩
      · refine .inr ⟨k + 1, y, by simp only [idxByFrom, h, Bool.false_eq_true, if_false]; rw [h1]; omega, by simpa using h2, h3, fun m hm => ?_⟩
        rw [List.take_succ_cons] at hm
        rcases List.mem_cons.1 hm with rfl | hm
        · exact h
        · exact h4 m hm
def fz (x : Int) : Fin 1024 := ⟨x.toNat % 1024, Nat.mod_lt _ (by decide)⟩
theorem fz_is {x : Int} (h : 0 ≤ x ∧ x < 1024) : (((fz x).val : Nat) : Int) = x := by
  show ((x.toNat % 1024 : Nat) : Int) = x
  rw [Nat.mod_eq_of_lt (by omega)]; omega
theorem find_any (W : Int → Int) (B : Nat) (lf : List Int) (A : Option Addr) (c : Nat) (w : World) {P : Nat → Prop} (hM : ArI w B W) (hr : RowI w P A lf) (hlf : ∀ x ∈ lf, 0 ≤ x ∧ x < 1024) (hll : lf.length ≤ 1024) :
    Calls Try.prog 32 #[.slice A lf.length c, .func (.func 33) #[] #[.pointer (some ⟨B, 0, none⟩)]] w fun e w' => ((e = .returned (.int .i64 (-1)) ∧ ∀ m ∈ lf, W m ≠ 0) ∨ ∃ (i : Nat) (x : Int), e = .returned (.int .i64 (i : Int)) ∧ lf[i]? = some x ∧ W x = 0 ∧ ∀ m ∈ lf.take i, W m ≠ 0) ∧ ∃ q, w' = w.drewN q := by
  by_cases hn : lf = []
  · subst hn
    refine (AnyE.slices_IndexFunc_empty Try.indexA A c _ w).mono ?_
    rintro e w' ⟨he, rfl⟩
    exact ⟨.inl ⟨he, fun m hm => by cases hm⟩, 0, rfl⟩
  · rcases hr with h | ⟨g, o, rfl, _, _, hc⟩
    · exact absurd h hn
    · have hzl : (lf.map fz).length = lf.length := List.length_map _
      have h := AnyE.slices_IndexFunc Try.indexA (fun j : Fin 1024 => Value.int .i64 ((j.val : Nat) : Int)) (fun j => decide (W ((j.val : Nat) : Int) = 0)) 33 #[.pointer (some ⟨B, 0, none⟩)] (enters_of Try.func33 (by kernel_rfl) rfl) g o lf.length c (lf.map fz) w (fun V x hb => ord_gives W B V (hM.below hb) x) (by rw [hzl]; exact Nat.le_refl _) (by omega) (fun j hj => by
        rw [hzl] at hj
        rw [hc j lf[j] (List.getElem?_eq_getElem hj)]
        have e : (lf.map fz)[j]! = fz lf[j] := by
          rw [List.getElem!_eq_getElem?_getD, List.getElem?_map, List.getElem?_eq_getElem hj]; rfl
        rw [e, fz_is (hlf _ (List.getElem_mem hj))])
      refine h.mono ?_
      rintro e w' ⟨he, hq⟩
      refine ⟨?_, hq⟩
      have hmm : ∀ m ∈ lf, (decide (W (((fz m).val : Nat) : Int) = 0) = false ↔ W m ≠ 0) := fun m hm => by rw [fz_is (hlf m hm)]; simp
      rw [← hzl, List.take_length] at he
      rcases idx_cases (fun _ y : Fin 1024 => decide (W ((y.val : Nat) : Int) = 0)) default (lf.map fz) 0 with ⟨h1, h2⟩ | ⟨k, y, h1, h2, h3, h4⟩
      · refine .inl ⟨by rw [he]; unfold idxBy; rw [h1], fun m hm => (hmm m hm).1 (h2 _ (List.mem_map.2 ⟨m, hm, rfl⟩))⟩
      · rw [List.getElem?_map] at h2
        cases hx : lf[k]? with
        | none => rw [hx] at h2; cases h2
        | some x =>
          rw [hx] at h2
          obtain rfl : fz x = y := by simpa using h2
          have hxm := List.mem_of_getElem? hx
          refine .inr ⟨k, x, by rw [he]; unfold idxBy; rw [h1, Nat.zero_add], hx, ?_, fun m hm => (hmm m (List.mem_of_mem_take hm)).1 (h4 _ (by rw [← List.map_take]; exact List.mem_map.2 ⟨m, hm, rfl⟩))⟩
          have := of_decide_eq_true h3
          rwa [fz_is (hlf x hxm)] at this
theorem del_any (l : List Int) (A : Option Addr) (c : Nat) (w : World) {P : Nat → Prop} (hr : RowW w P A c l) (i : Nat) (hi : i < l.length) (base : Nat) (hP : ∀ k, P k → base ≤ k) (hs : base ≤ w.heap.size) :
    Calls Try.prog 34 #[.slice A l.length c, .int .i64 (i : Int), .int .i64 ((i : Int) + 1)] w fun e w' => e = .returned (.slice A (l.take i ++ l.drop (i + 1)).length c) ∧ RowW w' P A c (l.take i ++ l.drop (i + 1)) ∧ Below base w w' ∧ w.heap.size ≤ w'.heap.size ∧ ∀ k, k < w.heap.size → ¬ P k → w'.heap[k]? = w.heap[k]? := by
  rcases hr.row with h | ⟨blk, o, rfl, hPk, hlt, hh⟩
  · subst h; exact absurd hi (Nat.not_lt_zero _)
  · have hcm := hr.cap
    unfold maxLen at hcm
    have h := Any.slices_Delete_int Try.deleteA blk o c i (i + 1) l w hh hr.le (by omega) (by omega) (by omega)
    rw [show ((i + 1 : Nat) : Int) = (i : Int) + 1 from by omega] at h
    refine h.mono ?_
    have hlen : (l.take i ++ l.drop (i + 1)).length = l.length - (i + 1 - i) := by simp; omega
    rintro e w' ⟨he, q, rfl⟩
    have hH := holds_putRow (Value.int .i64) (Sort.ahead w q) blk o l.toArray (l.take i ++ l.drop (i + 1) ++ List.replicate (i + 1 - i) 0).toArray (holds_ahead _ _ _ _ _ _ hh) (by simp; omega)
    have hB := below_putRow (w := w) (blk := blk) (off := o) (n := q) (base := base) (d := (l.take i ++ l.drop (i + 1) ++ List.replicate (i + 1 - i) 0).toArray) (os := #[]) (hP blk hPk) hs
    have hZ := size_putRow (w := w) (blk := blk) (off := o) (n := q) (d := (l.take i ++ l.drop (i + 1) ++ List.replicate (i + 1 - i) 0).toArray) (os := #[])
    have hK := fun k hk hne => heap_putRow (w := w) (blk := blk) (off := o) (n := q) (d := (l.take i ++ l.drop (i + 1) ++ List.replicate (i + 1 - i) 0).toArray) (os := #[]) (k := k) hk hne
    rw [grow_none] at hB hZ hK
    refine ⟨by rw [he, hlen], ⟨by have := hr.le; omega, hr.cap, .inr ⟨blk, o, rfl, hPk, Nat.lt_of_lt_of_le hlt hZ, holds_take hH⟩⟩, hB, hZ, fun k hk hn => hK k hk fun e => hn (e ▸ hPk)⟩
end Go.Proofs.Ytbppkflgokfjhaa
namespace Go.Proofs.Ytbppkflgokfjhaa
open Go.RowKit Go.Maps Go.Sort Go.Shelf Go.Lib
def slNq : Value → Nat | .slice _ n _ => n | _ => 0
set_option maxHeartbeats 64000000 in
set_option maxRecDepth 10000 in
theorem porder_any (w : World) (g : Nat) (L : List Lk) (hP : GP12 w g L) (hk : OkK L) (hL : L.length ≤ 60) :
    Calls Try.prog 15 #[.pointer (some ⟨g, 0, none⟩)] w fun e w' => GRow w (ordG L 1024) e w' := by
  obtain ⟨i0, hi0, hz0, hz1, hz2⟩ := info_parts gint_info
  have hb1 : Below w.heap.size w (w.alloc (.cells Try.zeroCells67 67)) := (Below.refl _ _).alloc (Nat.le_refl _) _
  have HSt := Lib.hid (pstraight_any _ g L (hP.below hb1) hk hL)
  have HM1 : Hid (ArI (w.alloc (.cells Try.zeroCells67 67)) w.heap.size (fun _ => 0)) := Lib.hid (Ar.made waits_zero w)
  have HX : Hid (w.heap.size < (w.alloc (.cells Try.zeroCells67 67)).heap.size) := Lib.hid (by simp)
  have HB1 := Lib.hid hb1
  obtain ⟨b1, b2, n1, n2, f1, f2, R1, R2, hG⟩ := hP
  have HGet := Lib.hid (fun (W : World) (hb : Below w.heap.size w W) (x : Int) (hx : KB x) => hG.readers hb hx)
  have HR2 := Lib.hid hG.ok.r2
  have HD2 := Lib.hid hG.ok.d2
  have HR2l := Lib.hid (fun y => Nat.le_trans (hG.ok.l2 y) hL)
  have HRw := Lib.hid (fun (W : World) (hb : Below w.heap.size w W) (x : Int) (hx : KB x) => (hG.readers hb hx).2)
  have HK := Lib.hid hk
  have HSr : Hid (∀ x ∈ strG L, okN x) := Lib.hid fun x hx => by
    have := node_range hk ((strG_mem hk).1 hx).1
    unfold okN; omega
  clear hG hk hL hb1
  go_enter Try.func15, Try.ntmps15
  go_wp2_with fail
  refine wp_scope_meets 0 (fun a' wr => ∃ (told lf : List Int) (A4 : Option Addr) (c4 : Nat) (v9 u5 u6 u7 u8 u10 u11 u12 u13 u14 u15 u16 u17 u18 u19 u20 u21 u22 u23 u24 u25 u26 u27 u28 u29 u30 u31 u32 u33 u34 u35 u36 u37 u38 u39 u40 u41 u42 u43 u44 u45 u46 u47 u48 u49 u50 u51 u52 u53 u54 u55 u56 u57 u58 u59 u60 u61 u62 u63 u64 u65 u66 u67 u68 u69 u70 u71 u72 u73 u74 u75 u76 u77 u78 : Value), a' = { tmps := #[.pointer (some ⟨g, 0, none⟩), undef, .slice none 0 0, .pointer (some ⟨w.heap.size, 0, none⟩), .slice A4 lf.length c4, u5, u6, u7, u8, v9, u10, u11, u12, u13, u14, u15, u16, u17, u18, u19, u20, u21, u22, u23, u24, u25, u26, u27, u28, u29, u30, u31, u32, u33, u34, u35, u36, u37, u38, u39, u40, u41, u42, u43, u44, u45, u46, u47, u48, u49, u50, u51, u52, u53, u54, u55, u56, u57, u58, u59, u60, u61, u62, u63, u64, u65, u66, u67, u68, u69, u70, u71, u72, u73, u74, u75, u76, u77, u78], defers := [] } ∧ Hid (OrdS L told lf) ∧ Hid (OwnR 3 1 inW (w.heap.size + 1) wr v9 told) ∧ Hid (RowW wr (fun k => w.heap.size + 1 ≤ k ∧ v9.ownBlock ≠ some k) A4 c4 lf) ∧ Hid (ArI wr w.heap.size (cntW R2 lf)) ∧ Hid (Below w.heap.size w wr)) (fun a' wr => slNq (a'.tmps.getD 4 undef)) rfl ?_ ?_
  · rintro a' wr ⟨told, lf, A4, c4, v9, u5, u6, u7, u8, u10, u11, u12, u13, u14, u15, u16, u17, u18, u19, u20, u21, u22, u23, u24, u25, u26, u27, u28, u29, u30, u31, u32, u33, u34, u35, u36, u37, u38, u39, u40, u41, u42, u43, u44, u45, u46, u47, u48, u49, u50, u51, u52, u53, u54, u55, u56, u57, u58, u59, u60, u61, u62, u63, u64, u65, u66, u67, u68, u69, u70, u71, u72, u73, u74, u75, u76, u77, u78, rfl, HS, H9, H4, HAr, HB⟩
    have hll := HS.out.len
    have hFi := find_any (cntW R2 lf) w.heap.size lf A4 c4 wr HAr.out H4.out.row.row (fun x hx => by
      have := node_range HK.out ((HS.out.mem HK.out).1 hx).1.1
      omega) hll
    have HFi := Lib.hid hFi
    clear hFi
    go_wp2_with fail
    refine HFi.out.mono ?_; rintro e w1 ⟨hcase, q, rfl⟩
    clear HFi
    rcases hcase with ⟨rfl, hno⟩ | ⟨i, x, rfl, hx, h0, hno⟩
    · have HF : Hid (GRow w (ordG L 1024) (.returned v9) (wr.drewN q)) := Lib.hid (by
        have e := HS.out.done HK.out HR2.out hno
        obtain ⟨A, cap, hv, hkk, hr⟩ := own_rowG H9.out
        have hbd : Below wr.heap.size wr (wr.drewN q) := below_drewN (Below.refl _ _) q
        rw [hv, ← e]
        exact ⟨A, cap, rfl, hkk, (hr.mono fun k hk _ => by omega).below hbd, HB.out.trans (hbd.mono HB.out.size)⟩)
      clear HS H9 H4 HAr HB hno
      go_wp2_with fail
      simp only [Exit.jump]
      go_ret
      exact HF.out
    · have HS2 := Lib.hid (HS.out.next HK.out HR2.out hx h0 hno)
      have hil : i < lf.length := (List.getElem?_eq_some_iff.1 hx).1
      have hxm := (HS.out.mem HK.out).1 (List.mem_of_getElem? hx)
      have hkx : KB x := by
        have := node_range HK.out hxm.1.1
        unfold KB; omega
      have htl : told.length ≤ 1024 := told_len HK.out HS.out.tl
      obtain ⟨g4, o4, rfl, hPn, hg4l, hc4x⟩ : ∃ g4 o4, A4 = some ⟨g4, o4, none⟩ ∧ (w.heap.size + 1 ≤ g4 ∧ v9.ownBlock ≠ some g4) ∧ g4 < wr.heap.size ∧ wr.cell? ⟨g4, o4 + i, none⟩ = some (.int .i64 x) := by
        rcases H4.out.row with h | ⟨g4, o4, e, hp, hl, hh⟩
        · rw [h] at hil; exact absurd hil (Nat.not_lt_zero _)
        · exact ⟨g4, o4, e, hp, hl, holds_row hh hx⟩
      have hbd : Below wr.heap.size wr (wr.drewN q) := below_drewN (Below.refl _ _) q
      have hcd : (wr.drewN q).cell? ⟨g4, o4 + i, none⟩ = some (.int .i64 x) := keep_cell hbd hc4x
      have H9d := Lib.hid (H9.out.below hbd)
      have H4d := Lib.hid (H4.out.below hbd)
      have HAd := Lib.hid (HAr.out.below hbd)
      have HBd := Lib.hid (HB.out.trans (hbd.mono HB.out.size))
      have hgd : g4 < (wr.drewN q).heap.size := hg4l
      have hCut := Lib.hid (fun r => cntW_cut (R2 := R2) hx r)
      clear hbd hc4x H9 H4 HAr HB hg4l HS hno h0 hx
      generalize wr.drewN q = wd at *
      have hI : (i : Int) < (lf.length : Int) := by omega
      have hJ : (0 : Int) ≤ (i : Int) := by omega
      have hneg : decide ((i : Int) < 0) = false := decide_eq_false (by omega)
      have w64 : IntKind.i64.wrap ((i : Int) + 1) = (i : Int) + 1 := by rw [IntKind.wrap_i64]; omega
      have hbs := HBd.out.size
      have hown9 : Hid (∀ k, v9.ownBlock = some k → w.heap.size + 1 ≤ k) := Lib.hid fun k hk => (World.ownsRow.lt H9d.out k hk).1
      have hXw := HAd.out.lt
      go_wp2_with (at_builtin; refine of_stop ?_)
      refine stop_of ?_
      have b0 : Below wd.heap.size wd (wd.alloc (.cells #[.int .i64 x] 3)) := (Below.refl _ _).alloc (Nat.le_refl _) _
      refine wpList_append_all rfl _ _ rfl rfl (OwnR.below H9d.out b0) (L2 := [x]) rfl (one_rowI wd x) (Z := told ++ [x]) rfl hi0 hz0 hz1 hz2 rfl (by simp; omega) (by simp; omega) ?_
      intro v5 w5 ho5 hg5 hat5
      have hs5 := hg5.size
      have HO5 := Lib.hid ho5
      have H45 : Hid (RowW w5 (fun k => w.heap.size + 1 ≤ k ∧ v5.ownBlock ≠ some k) (some ⟨g4, o4, none⟩) c4 lf) := Lib.hid (by
        have hk : Kept wd w5 (fun k => w.heap.size + 1 ≤ k ∧ v9.ownBlock ≠ some k) := ⟨by have : wd.heap.size ≤ (wd.alloc (.cells #[.int .i64 x] 3)).heap.size := by simp
                                                                                          omega, fun k hk hl => (hg5.block k (by simp; omega) (fun e => hk.2 e.symm)).trans (b0.block k hl)⟩
        have h1 := (H4d.out.mono (Q := fun k => (w.heap.size + 1 ≤ k ∧ v9.ownBlock ≠ some k) ∧ k < wd.heap.size) fun k hk hl => ⟨hk, hl⟩)
        have h2 : Kept wd w5 (fun k => (w.heap.size + 1 ≤ k ∧ v9.ownBlock ≠ some k) ∧ k < wd.heap.size) := ⟨hk.size, fun k hk' hl => hk.block k hk'.1 hl⟩
        refine (h1.kept h2).mono fun k hk' _ => ⟨hk'.1.1, fun e => ?_⟩
        rcases hat5 with h | h
        · exact hk'.1.2 (h ▸ e)
        · rw [h] at e
          have := Option.some.inj e
          have h3 : (wd.alloc (.cells #[.int .i64 x] 3)).heap.size = wd.heap.size + 1 := by simp
          omega)
      have HA5 : Hid (ArI w5 w.heap.size (cntW R2 lf)) := Lib.hid ((HAd.out.below b0).world (hg5.block _ (HAd.out.below b0).lt fun e => by have := hown9.out _ e.symm; omega))
      have HB5 : Hid (Below w.heap.size w w5) := Lib.hid ((HBd.out.trans (b0.mono hbs)).grown hg5 (by simp; omega) fun k hk => by have := hown9.out k hk; omega)
      have hc5 : w5.cell? ⟨g4, o4 + i, none⟩ = some (.int .i64 x) := (World.cell?_of_block (w := wd.alloc (.cells #[.int .i64 x] 3)) (hg5.block g4 (by simp; omega) (fun e => hPn.2 e.symm))).trans (keep_cell b0 hcd)
      have HC5 := Lib.hid (fun (W : World) (hb : Below w5.heap.size w5 W) => (show W.cell? ⟨g4, o4 + i, none⟩ = some (.int .i64 x) from keep_cell hb hc5))
      have hs6 : w.heap.size ≤ w5.heap.size := HB5.out.size
      have HLk := Lib.hid (fun (W : World) (hb : Below w5.heap.size w5 W) => HGet.out W (HB5.out.trans (hb.mono HB5.out.size)) x hkx)
      have hrl := HR2l.out x
      have HRx := Lib.hid (HR2.out x)
      have HDx := Lib.hid (HD2.out x)
      have HRwx := Lib.hid (fun W hb => HRw.out W hb x hkx)
      have HEq : Hid (∀ r, winc (cntW R2 lf) (R2 x) (R2 x).length (-1) r = cntW R2 (lf.take i ++ lf.drop (i + 1)) r) := Lib.hid fun r => by rw [winc_all, hCut.out r]; omega
      have HBd : Hid (∀ r, 0 ≤ cntW R2 lf r ∧ cntW R2 lf r ≤ 1024) := Lib.hid fun r => by have := cntW_pos R2 lf r; omega
      have HP4 := Lib.hid hPn.1
      have hHN : (0 : Nat) ≤ 0 := Nat.le_refl _
      clear b0 ho5 hg5 hat5 H9d H4d HAd hc5 hcd hxm hCut hown9 hbs hXw hPn hkx hgd
      generalize hDl : lf.take i ++ lf.drop (i + 1) = lf2 at *
      generalize hC : cntW R2 lf = CW at *
      generalize R2 x = RR at *
      generalize ((f2 x).getD sl0).addr = A2 at *
      generalize ((f2 x).getD sl0).cap = c2 at *
      go_wp2_with fail
      go_region_held3 (fun w' => w'.cell? ⟨g, 1, none⟩ = some (.map (some b2)) ∧ w'.cell? ⟨g4, o4 + i, none⟩ = some (.int .i64 x))
        (first | (exact ⟨(HLk.out _ (by with_reducible repeat' (first | exact Below.refl _ _ | refine Below.drew ?_))).1.1, HC5.out _ (by with_reducible repeat' (first | exact Below.refl _ _ | refine Below.drew ?_))⟩) | fail)
        (first
        | (refine upon_run (HLk.out _ (by with_reducible repeat' (first | exact Below.refl _ _ | refine Below.drew ?_))).1.2 ?_)
        | fail)
      have hb6 : Below w5.heap.size w5 w5.drew := Below.drew (Below.refl _ _)
      have HO6 := Lib.hid (HO5.out.below hb6)
      have H46 := Lib.hid (H45.out.below hb6)
      have HA6 : Hid (ArI w5.drew w.heap.size (winc CW RR 0 (-1))) := Lib.hid (by rw [winc_zero]; exact HA5.out.below hb6)
      have HB6 := Lib.hid (HB5.out.trans (hb6.mono HB5.out.size))
      clear hb6 HO5 H45 HA5 HB5 HLk HC5 hs6
      generalize w5.drew = w6 at *
      go_wp2_with fail
      go_loopw [64] (fun vk wx => ∃ (k : Nat), k ≤ RR.length ∧ vk = .int .i64 (k : Int) ∧ Hid (ArI wx w.heap.size (winc CW RR k (-1))) ∧ Hid (ButG w.heap.size w6 wx)) (fun vk _ => RR.length - (vIn vk).toNat)
      case atStart => exact ⟨0, Nat.zero_le _, rfl, HA6, Lib.hid (ButG.refl _ _)⟩
      case round =>
        clear HA6
        obtain ⟨k, hk, rfl, HA, HBt⟩ := hrel
        by_cases hkl : k < RR.length
        · obtain ⟨r, hr⟩ : ∃ r, RR[k]? = some r := ⟨_, List.getElem?_eq_getElem hkl⟩
          have hed := (HRx.out r).1 (List.mem_of_getElem? hr)
          have hor := (ed_ok HK.out hed).1
          obtain ⟨j, hj⟩ : ∃ j : Nat, r = (j : Int) := ⟨r.toNat, by unfold okN at hor; omega⟩
          have hj1 : j < 1024 := by unfold okN at hor; omega
          subst hj
          rcases HRwx.out wr (HB6.out.trans (HBt.out.below (Nat.le_refl _) HB6.out.size)) with hnil | ⟨gr, orr, rfl, _, hgl, hcr⟩
          · rw [hnil] at hkl; exact absurd hkl (Nat.not_lt_zero _)
          have c9 := hcr k (j : Int) hr
          obtain ⟨m0, m1⟩ := HA.out.cell hj1
          have hIk : (k : Int) < (RR.length : Int) := by omega
          have hJk : (0 : Int) ≤ (k : Int) := by omega
          have hvb := HBd.out (j : Int)
          have hvw : winc CW RR k (-1) (j : Int) = CW (j : Int) ∨ winc CW RR k (-1) (j : Int) = CW (j : Int) - 1 := by
            unfold winc one01
            cases decide ((j : Int) ∈ RR.take k) <;> simp <;> omega
          have hw64 : IntKind.i64.wrap (winc CW RR k (-1) (j : Int) - 1) = winc CW RR k (-1) (j : Int) - 1 := by rw [IntKind.wrap_i64]; omega
          have HA2 : Hid (ArI (wr.setCell ⟨w.heap.size, j, none⟩ (.int .i64 (winc CW RR k (-1) (j : Int) - 1))) w.heap.size (winc CW RR (k + 1) (-1))) := Lib.hid ((HA.out.set (enc := Value.int .i64) (j := j) (winc CW RR k (-1) (j : Int) - 1)).congr fun y => by
            rw [winc_next HDx.out hr]; rfl)
          have HBt2 := Lib.hid (HBt.out.setR j (.int .i64 (winc CW RR k (-1) (j : Int) - 1)))
          clear hcr hed hor hr hvb hvw HA HBt
          generalize winc CW RR k (-1) (j : Int) = VV at *
          go_wp2_with fail
          go_roundw
          case rel => exact ⟨k + 1, by omega, by go_num, HA2, HBt2⟩
          case measure => simp [vIn]; omega
        · have hkk : k = RR.length := by omega
          subst hkk
          have HA7 : Hid (ArI wr w.heap.size (cntW R2 lf2)) := Lib.hid (HA.out.congr HEq.out)
          have hXl := HA.out.lt
          have h4k := (H46.out.mono (Q := fun k => (w.heap.size + 1 ≤ k ∧ v5.ownBlock ≠ some k) ∧ k ≠ w.heap.size) fun k hk _ => ⟨hk, by omega⟩).kept (w' := wr) ⟨HBt.out.size, fun k hk hl => HBt.out.block k hl hk.2⟩
          have HDel := Lib.hid (del_any lf _ c4 wr (h4k.mono (Q := fun k => w.heap.size + 1 ≤ k ∧ v5.ownBlock ≠ some k) fun k hk _ => hk.1) i hil (w.heap.size + 1) (fun k hk => hk.1) (by omega))
          rw [hDl] at HDel
          have HO7 := Lib.hid (OwnR.block HO6.out (w' := wr) fun k hk => by
            have := World.ownsRow.lt HO6.out k hk
            exact HBt.out.block k this.2 (by omega))
          have HB7 := Lib.hid (HB6.out.trans (HBt.out.below (Nat.le_refl _) HB6.out.size))
          clear h4k HA HBt H46 HO6 HB6
          go_wp2_with fail
          refine HDel.out.mono ?_; rintro e w8 ⟨rfl, hr8, hb8, hz8, hbk8⟩
          have HR8 := Lib.hid hr8
          have HO8 := Lib.hid (OwnR.block HO7.out (w' := w8) fun k hk => hbk8 k (World.ownsRow.lt HO7.out k hk).2 (fun h => h.2 hk))
          have HA8 : Hid (ArI w8 w.heap.size (cntW R2 lf2)) := Lib.hid (HA7.out.world (hbk8 _ hXl (fun h => by have := h.1; omega)))
          have HB8 := Lib.hid (HB7.out.trans (hb8.mono (by omega)))
          have HMu : Hid (lf2.length < lf.length) := Lib.hid (by rw [← hDl]; simp; omega)
          clear hr8 hb8 hz8 hbk8 HDel HO7 HB7 HA7
          go_wp2_with fail
          go_step3
          exact ⟨rfl, ⟨told ++ [x], lf2, _, _, _, _, _, _, _, _, _, _, _, _, _, _, _, _, _, _, _, _, _, _, _, _, _, _, _, _, _, _, _, _, _, _, _, _, _, _, _, _, _, _, _, _, _, _, _, _, _, _, _, _, _, _, _, _, _, _, _, _, _, _, _, _, _, _, _, _, _, _, _, _, _, _, _, _, rfl, HS2, HO8, HR8, HA8, HB8⟩, HMu.out⟩
  · intro HJ
    go_wp2_with fail
    refine HSt.out.mono ?_; rintro e w2 ⟨A4, c4, rfl, hr4, hb2⟩
    have HB2 := Lib.hid (HB1.out.trans (hb2.mono HB1.out.size))
    have HM2 : Hid (ArI w2 w.heap.size (fun _ => 0)) := Lib.hid (HM1.out.below hb2)
    have H42 : Hid (RowW w2 (fun k => w.heap.size + 1 ≤ k) A4 c4 (strG L)) := Lib.hid (hr4.mono fun k hk _ => by have := HX.out; omega)
    have hll : (strG L).length ≤ 1024 := strG_len L
    have HOS := Lib.hid (OrdS.start L)
    clear hr4 hb2 HM1 HSt
    generalize strG L = lf at *
    go_wp2_with fail
    go_loopw [19] (fun vi wx => ∃ (i : Nat), i ≤ lf.length ∧ vi = .int .i64 (i : Int) ∧ Hid (ArI wx w.heap.size (cntW R2 (lf.take i))) ∧ Hid (ButG w.heap.size w2 wx)) (fun vi _ => lf.length - (vIn vi).toNat)
    case atStart => exact ⟨0, Nat.zero_le _, rfl, Lib.hid (HM2.out.congr fun n => by rw [List.take_zero, cntW_nil]), Lib.hid (ButG.refl _ _)⟩
    case round =>
      clear HM2
      obtain ⟨i, hi, rfl, HA, HBt⟩ := hrel
      by_cases hil : i < lf.length
      · obtain ⟨x, hx⟩ : ∃ x, lf[i]? = some x := ⟨_, List.getElem?_eq_getElem hil⟩
        have hkx : KB x := kb_ok (HSr.out x (List.mem_of_getElem? hx))
        obtain ⟨g4, o4, rfl, hc4x⟩ : ∃ g4 o4, A4 = some ⟨g4, o4, none⟩ ∧ wr.cell? ⟨g4, o4 + i, none⟩ = some (.int .i64 x) := by
          rcases H42.out.row with h | ⟨g4, o4, e, hp, hl, hh⟩
          · rw [h] at hil; exact absurd hil (Nat.not_lt_zero _)
          · exact ⟨g4, o4, e, HBt.out.cell (by show g4 ≠ w.heap.size; omega) (holds_row hh hx)⟩
        have hBw : Below w.heap.size w wr := HB2.out.trans (HBt.out.below (Nat.le_refl _) HB2.out.size)
        obtain ⟨⟨hc1, hlk⟩, _⟩ := HGet.out wr hBw x hkx
        have hrl := HR2l.out x
        have HRx := Lib.hid (HR2.out x)
        have HDx := Lib.hid (HD2.out x)
        have HRwx := Lib.hid (fun W hb => HRw.out W hb x hkx)
        have HEq : Hid (∀ r, winc (cntW R2 (lf.take i)) (R2 x) (R2 x).length 1 r = cntW R2 (lf.take (i + 1)) r) := Lib.hid fun r => by rw [winc_all, cntW_take hx r]; omega
        have HBd : Hid (∀ r, 0 ≤ cntW R2 (lf.take i) r ∧ cntW R2 (lf.take i) r ≤ 1024) := Lib.hid fun r => by
          have := cntW_pos R2 (lf.take i) r
          have h2 : (lf.take i).length ≤ lf.length := by rw [List.length_take]; omega
          omega
        have HA2 : Hid (ArI wr w.heap.size (winc (cntW R2 (lf.take i)) (R2 x) 0 1)) := Lib.hid (by rw [winc_zero]; exact HA.out)
        have hI : (i : Int) < (lf.length : Int) := by omega
        have hJ : (0 : Int) ≤ (i : Int) := by omega
        clear HA hx hBw hkx
        generalize cntW R2 (lf.take i) = CW at *
        generalize R2 x = RR at *
        generalize ((f2 x).getD sl0).addr = A2 at *
        generalize ((f2 x).getD sl0).cap = c2 at *
        go_wp2_with fail
        clear hlk hc1 hc4x
        go_loopw [30] (fun vk wx => ∃ (k : Nat), k ≤ RR.length ∧ vk = .int .i64 (k : Int) ∧ Hid (ArI wx w.heap.size (winc CW RR k 1)) ∧ Hid (ButG w.heap.size w2 wx)) (fun vk _ => RR.length - (vIn vk).toNat)
        case atStart => exact ⟨0, Nat.zero_le _, rfl, HA2, HBt⟩
        case round =>
          clear HA2 HBt
          obtain ⟨k, hk, rfl, HA, HBt⟩ := hrel
          by_cases hkl : k < RR.length
          · obtain ⟨r, hr⟩ : ∃ r, RR[k]? = some r := ⟨_, List.getElem?_eq_getElem hkl⟩
            have hed := (HRx.out r).1 (List.mem_of_getElem? hr)
            have hor := (ed_ok HK.out hed).1
            obtain ⟨j, hj⟩ : ∃ j : Nat, r = (j : Int) := ⟨r.toNat, by unfold okN at hor; omega⟩
            have hj1 : j < 1024 := by unfold okN at hor; omega
            subst hj
            rcases HRwx.out wr (HB2.out.trans (HBt.out.below (Nat.le_refl _) HB2.out.size)) with hnil | ⟨gr, orr, rfl, _, hgl, hcr⟩
            · rw [hnil] at hkl; exact absurd hkl (Nat.not_lt_zero _)
            have c9 := hcr k (j : Int) hr
            obtain ⟨m0, m1⟩ := HA.out.cell hj1
            have hIk : (k : Int) < (RR.length : Int) := by omega
            have hJk : (0 : Int) ≤ (k : Int) := by omega
            have hvb := HBd.out (j : Int)
            have hvw : winc CW RR k 1 (j : Int) = CW (j : Int) ∨ winc CW RR k 1 (j : Int) = CW (j : Int) + 1 := by
              unfold winc one01
              cases decide ((j : Int) ∈ RR.take k) <;> simp <;> omega
            have hw64 : IntKind.i64.wrap (winc CW RR k 1 (j : Int) + 1) = winc CW RR k 1 (j : Int) + 1 := by rw [IntKind.wrap_i64]; omega
            have HA2 : Hid (ArI (wr.setCell ⟨w.heap.size, j, none⟩ (.int .i64 (winc CW RR k 1 (j : Int) + 1))) w.heap.size (winc CW RR (k + 1) 1)) := Lib.hid ((HA.out.set (enc := Value.int .i64) (j := j) (winc CW RR k 1 (j : Int) + 1)).congr fun y => by
              rw [winc_next HDx.out hr]; rfl)
            have HBt2 := Lib.hid (HBt.out.setR j (.int .i64 (winc CW RR k 1 (j : Int) + 1)))
            clear hcr hed hor hr hvb hvw HA HBt
            generalize winc CW RR k 1 (j : Int) = VV at *
            go_wp2_with fail
            go_roundw
            case rel => exact ⟨k + 1, by omega, by go_num, HA2, HBt2⟩
            case measure => simp [vIn]; omega
          · have hkk : k = RR.length := by omega
            subst hkk
            have HA7 : Hid (ArI wr w.heap.size (cntW R2 (lf.take (i + 1)))) := Lib.hid (HA.out.congr HEq.out)
            clear HA
            go_wp2_with fail
            go_roundw
            case rel => exact ⟨i + 1, by omega, by go_num, HA7, HBt⟩
            case measure => simp [vIn]; omega
      · have hii : i = lf.length := by omega
        subst hii
        have HA7 : Hid (ArI wr w.heap.size (cntW R2 lf)) := Lib.hid (by have := HA.out; rwa [List.take_length] at this)
        have HB7 := Lib.hid (HB2.out.trans (HBt.out.below (Nat.le_refl _) HB2.out.size))
        have H47 : Hid (RowW wr (fun k => w.heap.size + 1 ≤ k ∧ (Value.slice none 0 0).ownBlock ≠ some k) A4 c4 lf) := Lib.hid (((H42.out.mono (Q := fun k => w.heap.size + 1 ≤ k ∧ k ≠ w.heap.size) fun k hk _ => ⟨hk, by omega⟩).kept (w' := wr) ⟨HBt.out.size, fun k hk hl => HBt.out.block k hl hk.2⟩).mono fun k hk _ => ⟨hk.1, fun e => by cases e⟩)
        clear HA HBt H42
        go_wp2_with fail
        go_step3
        rename_i K1 hK1
        exact hK1 _ _ (HJ _ _ ⟨[], lf, _, _, _, _, _, _, _, _, _, _, _, _, _, _, _, _, _, _, _, _, _, _, _, _, _, _, _, _, _, _, _, _, _, _, _, _, _, _, _, _, _, _, _, _, _, _, _, _, _, _, _, _, _, _, _, _, _, _, _, _, _, _, _, _, _, _, _, _, _, _, _, _, _, _, _, _, rfl, HOS, Lib.hid (World.ownsRow_nil _ _ _ _), H47, HA7, HB7⟩)
end Go.Proofs.Ytbppkflgokfjhaa
namespace Go.Proofs.Ytbppkflgokfjhaa
open Go.RowKit
theorem lkS_mem {l : List LkM} {q : LkM} (h : q ∈ l) : q.k ∈ lkS l := List.mem_map.2 ⟨q, h, rfl⟩
theorem lkS_len (l : List LkM) : (lkS l).length = l.length := List.length_map _
theorem closed_of {l : List LkM} {on found : List Int} (h : ∀ q ∈ l, (rdB q.rd on || rdB q.rd found) = true → q.at_ ∈ found) : ∀ x ∈ lkS l, (∃ r ∈ x.rd, r ∈ on ∨ r ∈ found) → x.at_ ∈ found := fun x hx => by
  obtain ⟨q, hq, rfl⟩ := List.mem_map.1 hx
  rintro ⟨r, hr, h1 | h1⟩
  · have e : rdB q.rd on = true := rdB_iff.2 ⟨r, hr, h1⟩
    exact h q hq (by rw [e]; rfl)
  · have e : rdB q.rd found = true := rdB_iff.2 ⟨r, hr, h1⟩
    exact h q hq (by rw [e, Bool.or_true])
theorem hang_step {l : List LkM} {on found : List Int} (h1 : ∀ n ∈ found, Hng (lkS l) on n) {q : LkM} (hq : q ∈ l) (hr : (rdB q.rd on || rdB q.rd found) = true) : ∀ n ∈ found ++ [q.at_], Hng (lkS l) on n :=
  hang_more h1 (x := q.k) (lkS_mem hq) (by
    rcases Bool.or_eq_true_iff.1 hr with e | e
    · obtain ⟨r, a, b⟩ := rdB_iff.1 e; exact ⟨r, a, .inl b⟩
    · obtain ⟨r, a, b⟩ := rdB_iff.1 e; exact ⟨r, a, .inr b⟩)
theorem nodup_snoc {l : List Int} {n : Int} (h : l.Nodup) (hn : n ∉ l) : (l ++ [n]).Nodup := List.nodup_append.2 ⟨h, by simp, fun a ha b hb e => by
  obtain rfl : b = n := by simpa using hb
  exact hn (e ▸ ha)⟩
def hgM (n k : Nat) (b : Bool) : Nat := (n - k) * 2 + if b then 1 else 0
set_option maxHeartbeats 16000000 in
set_option maxRecDepth 10000 in
theorem ghang_any (N : Nat) (hN : N = 1024) (l : List LkM) (A : Option Addr) (ca : Nat) (on : List Int) (O : Option Addr) (co : Nat) (w : World) {P Q : Nat → Prop} (hl : RowL w P A l) (ho : RowI w Q O on) (hll : l.length ≤ 100000) (hol : on.length ≤ 1000000) (hrl : ∀ q ∈ l, q.rd.length ≤ 1000000) :
    Calls Try.prog 18 #[.slice A l.length ca, .slice O on.length co] w fun e w' => GRow w (hangG (lkS l) on N) e w' := by
  obtain ⟨i0, hi0, hz0, hz1, hz2⟩ := info_parts gint_info
  have HN := Lib.hid hN
  have HL := Lib.hid hl
  have HOn := Lib.hid ho
  have HRl := Lib.hid hrl
  have HLe := Lib.hid (fun (found : List Int) hd (h : ∀ n ∈ found, Hng (lkS l) on n) => (show found.length ≤ l.length by have := found_len (L := lkS l) hd (fun n hn => hng_node (h n hn)); rwa [lkS_len] at this))
  clear hN hl ho hrl
  go_enter Try.func18, Try.ntmps18
  go_wp2_with fail
  go_loopg [5, 6] (hgM l.length 0 true) (fun gk vf vm wr => ∃ (found : List Int) (b : Bool), vm = .bool b ∧ gk = hgM l.length found.length b ∧ Hid (OwnR 3 1 inW w.heap.size wr vf found) ∧ Hid found.Nodup ∧ Hid (∀ n ∈ found, Hng (lkS l) on n) ∧ Hid (b = false → ∀ q ∈ l, (rdB q.rd on || rdB q.rd found) = true → q.at_ ∈ found) ∧ Hid (Below w.heap.size w wr))
  case atStart => exact ⟨[], true, rfl, rfl, Lib.hid (World.ownsRow_nil _ _ _ _), Lib.hid List.nodup_nil, Lib.hid (fun n h => (by cases h)), Lib.hid (fun h => by cases h), Lib.hid (Below.refl _ _)⟩
  case round =>
    obtain ⟨found, b, rfl, hgk, HO, HD, HH, HCl, HB⟩ := hrel
    have HGk := Lib.hid hgk
    clear hgk
    cases b with
    | false =>
      have HIf : Hid (∀ n, n ∈ found ↔ Hng (lkS l) on n) := Lib.hid (hang_done HH.out (closed_of (HCl.out rfl)))
      obtain ⟨F, cF, hv, hcF, hrF⟩ := own_rowG HO.out
      subst hv
      have HR := Lib.hid hrF
      have hfl := HLe.out found HD.out HH.out
      clear hrF HO HCl
      obtain ⟨wo, rfl⟩ : ∃ wo : World, wo = wr := ⟨wr, rfl⟩
      go_wp2_with fail
      go_loopw [11, 12] (fun v vi wx => ∃ (i : Nat), i ≤ 1024 ∧ vi = .int .i64 (i : Int) ∧ Hid (OwnR 3 1 inW wo.heap.size wx v (hangG (lkS l) on i)) ∧ Hid (Below wo.heap.size wo wx)) (fun _ vi _ => 1024 - (RowKit.intOf vi).toNat)
      case atStart => exact ⟨0, Nat.zero_le _, rfl, Lib.hid (World.ownsRow_nil _ _ _ _), Lib.hid (Below.refl _ _)⟩
      case round =>
        obtain ⟨i, hi, rfl, HO, HBx⟩ := hrel
        have hbs := HBx.out.size
        by_cases hlt : (i : Int) ≤ 1023
        · have HC := Lib.hid (ghas_any found F cF wr (HR.out.below HBx.out) (by omega) (i : Int))
          have hlen : (hangG (lkS l) on i).length ≤ i := upto_len _ _
          by_cases hin : (i : Int) ∈ found
          · rw [decide_eq_true hin] at HC
            have HE : Hid (hangG (lkS l) on (i + 1) = hangG (lkS l) on i ++ [(i : Int)]) := Lib.hid (upto_yes ((HIf.out _).1 hin))
            obtain ⟨M, hM⟩ : ∃ M, (hangG (lkS l) on i).length = M := ⟨_, rfl⟩
            have HM := Lib.hid hM
            rw [hM] at hlen
            clear hM hin
            go_wp2_with fail
            refine HC.out.mono ?_; rintro e w1 ⟨rfl, hw1⟩
            have hw1' := hw1.symm
            subst hw1'
            go_wp2_with (at_builtin; refine of_stop ?_)
            refine stop_of ?_
            have b0 : Below wo.heap.size wr (wr.alloc (.cells #[.int .i64 (i : Int)] 3)) := (Below.refl _ _).alloc hbs _
            refine wpList_append_rows (f := inW) (n := 1) (E := 3) (nb := 8) (X := hangG (lkS l) on i) (base := wo.heap.size) rfl _ _ rfl rfl (OwnR.below HO.out ((Below.refl _ _).alloc (Nat.le_refl _) _)) (L2 := [(i : Int)]) rfl (one_row wr (i : Int)) (by simp) (N := M + 1) (by rw [HM.out]; rfl) (Z := hangG (lkS l) on (i + 1)) HE.out.symm Try.underlying23 hi0 hz0 hz1 hz2 rfl (by decide) (by decide) (fun _ => rfl) inW_one (by omega) (by simp; omega) ?_
            intro g4 k4 w4 ho4 hg4 hat4 hl4
            have hb4 : Below wo.heap.size wr w4 := Below.grown b0 hg4 (by simp; omega) (fun k hk => (World.ownsRow.lt HO.out k hk).1)
            have HO4 := Lib.hid ho4
            have HB4 := Lib.hid (HBx.out.trans hb4)
            clear ho4 hg4 hat4 hl4 hb4 b0 hw1
            go_wp2_with fail
            go_roundw
            case rel => exact ⟨i + 1, by omega, by go_num, HO4, HB4⟩
            case measure => simp [RowKit.intOf]; omega
          · rw [decide_eq_false hin] at HC
            have HE : Hid (hangG (lkS l) on i = hangG (lkS l) on (i + 1)) := Lib.hid (upto_no (fun h => hin ((HIf.out _).2 h))).symm
            rw [HE.out] at HO
            clear hin
            go_wp2_with fail
            refine HC.out.mono ?_; rintro e w1 ⟨rfl, hw1⟩
            have hw1' := hw1.symm
            subst hw1'
            clear hw1
            go_wp2_with fail
            go_roundw
            case rel => exact ⟨i + 1, by omega, by go_num, HO, HBx⟩
            case measure => simp [RowKit.intOf]; omega
        · have hii : i = N := by have := HN.out; omega
          subst hii
          obtain ⟨O5, c5, hv5, hc5, hr5⟩ := own_rowG HO.out
          subst hv5
          have HR5 := Lib.hid (hr5.mono (Q := fun g => w.heap.size ≤ g) fun g hg _ => Nat.le_trans HB.out.size hg)
          have HBz := Lib.hid (HB.out.trans (HBx.out.mono HB.out.size))
          clear hr5
          go_wp2_with fail
          go_ret
          exact ⟨O5, c5, rfl, hc5, HR5.out, HBz.out⟩
    | true =>
      clear HCl
      have hfl0 := HLe.out found HD.out HH.out
      obtain ⟨wo, rfl⟩ : ∃ wo : World, wo = wr := ⟨wr, rfl⟩
      obtain ⟨go0, hgo0⟩ : ∃ go0, go0 = gk := ⟨gk, rfl⟩
      have HGo := Lib.hid hgo0
      clear hgo0
      go_wp2_with fail
      go_loopw [5, 6, 7] (fun vf vm vi wx => ∃ (i : Nat) (fd : List Int) (b : Bool), i ≤ l.length ∧ vi = .int .i64 (i : Int) ∧ vm = .bool b ∧ Hid (OwnR 3 1 inW w.heap.size wx vf fd) ∧ Hid fd.Nodup ∧ Hid (∀ n ∈ fd, Hng (lkS l) on n) ∧ Hid (found.length ≤ fd.length ∧ (b = true → found.length < fd.length)) ∧ Hid (b = false → ∀ q ∈ l.take i, (rdB q.rd on || rdB q.rd fd) = true → q.at_ ∈ fd) ∧ Hid (Below w.heap.size w wx)) (fun _ _ vi _ => l.length - (RowKit.intOf vi).toNat)
      case atStart => exact ⟨0, found, false, Nat.zero_le _, rfl, rfl, HO, HD, HH, Lib.hid ⟨Nat.le_refl _, fun h => by cases h⟩, Lib.hid (fun _ q hq => by simp at hq), HB⟩
      case round =>
        clear HO HD HH HB
        obtain ⟨i, fd, b, hi, rfl, rfl, HO, HD, HH, HGr, HCl, HB⟩ := hrel
        have hfl := HLe.out fd HD.out HH.out
        have hbs := HB.out.size
        by_cases hlt : i < l.length
        · obtain ⟨q, hq⟩ : ∃ q, l[i]? = some q := ⟨_, List.getElem?_eq_getElem hlt⟩
          obtain ⟨g, o, rfl, hpg, hgl, hat⟩ := HL.out.at hlt
          obtain ⟨⟨q0, q1⟩, hrq⟩ := hat i q hq
          obtain ⟨F, cF, hv, hcF, hrF⟩ := own_rowG HO.out
          have hI : (i : Int) < (l.length : Int) := by omega
          have hJ : (0 : Int) ≤ (i : Int) := by omega
          have hqm := List.mem_of_getElem? hq
          have hql := HRl.out q hqm
          have HRq := Lib.hid hrq
          have HQ := Lib.hid hq
          have HQm := Lib.hid hqm
          have HR1 := Lib.hid (greads_any q on O co wr (hrq.below HB.out) (HOn.out.below HB.out) hql hol)
          have k0 := keep_cell HB.out q0
          have k1 := keep_cell HB.out q1
          have HK := Lib.hid (fun w' (hb : Below w.heap.size w w') => (show w'.cell? ⟨g, o + i * 2, none⟩ = some (.int .i64 q.at_) ∧ w'.cell? ⟨g, o + i * 2 + 1, none⟩ = some (.slice q.RA q.rd.length q.rc) from ⟨(hb.cell hgl).trans q0, (hb.cell hgl).trans q1⟩))
          subst hv
          have HRf := Lib.hid hrF
          have HStep := Lib.hid (fun hr => hang_step HH.out hqm hr)
          have HClN := Lib.hid (fun (hb : b = false) h => allM_next (p := fun q => (rdB q.rd on || rdB q.rd fd) = true → q.at_ ∈ fd) hq (HCl.out hb) h)
          obtain ⟨an, rd, RA, rc⟩ := q
          clear hat q0 q1 hrq hq hqm hrF
          go_wp2_with fail
          refine HR1.out.mono ?_; rintro e w1 ⟨rfl, hb1⟩
          have HB1 := Lib.hid (HB.out.trans (hb1.mono HB.out.size))
          have HR2 := Lib.hid (greads_any ⟨an, rd, RA, rc⟩ fd F cF w1 ((HRq.out.below HB1.out)) (HRf.out.below hb1) hql (by omega))
          have HRf1 := Lib.hid (HRf.out.below hb1)
          have HO1 := Lib.hid (HO.out.below hb1)
          obtain ⟨k2, k3⟩ := HK.out w1 HB1.out
          clear hb1 HR1 k0 k1
          go_wp2_with fail
          refine HR2.out.mono ?_; rintro e w2 ⟨rfl, hb2⟩
          have HB2 := Lib.hid (HB1.out.trans (hb2.mono HB1.out.size))
          have HHs := Lib.hid (ghas_any fd F cF w2 (HRf1.out.below hb2) (by omega) an)
          have HO2 := Lib.hid (HO1.out.below hb2)
          obtain ⟨k4, k5⟩ := HK.out w2 HB2.out
          clear hb2 HR2 k2 k3 HRf1 HO1
          go_wp2_with fail
          refine HHs.out.mono ?_; rintro e w3 ⟨rfl, hw3⟩
          have hw3' := hw3.symm
          subst hw3'
          clear hw3 HHs
          cases hrb : (rdB rd on || rdB rd fd) with
          | false =>
            obtain ⟨e1, e2⟩ := Bool.or_eq_false_iff.1 hrb
            have HCl2 : Hid (b = false → ∀ q ∈ l.take (i + 1), (rdB q.rd on || rdB q.rd fd) = true → q.at_ ∈ fd) := Lib.hid fun hb => HClN.out hb (fun h => by
              have h : (rdB rd on || rdB rd fd) = true := h
              rw [hrb] at h; cases h)
            clear hrb HClN HCl
            go_wp2_with fail
            go_roundw
            case rel => exact ⟨i + 1, fd, b, by omega, by go_num, rfl, HO2, HD, HH, HGr, HCl2, HB2⟩
            case measure => simp [RowKit.intOf]; omega
          | true =>
            have HRb := Lib.hid hrb
            by_cases hin : an ∈ fd
            · have d0 : decide (an ∈ fd) = true := decide_eq_true hin
              have HCl2 : Hid (b = false → ∀ q ∈ l.take (i + 1), (rdB q.rd on || rdB q.rd fd) = true → q.at_ ∈ fd) := Lib.hid fun hb => HClN.out hb (fun _ => hin)
              clear HClN HCl hin
              cases hr1 : rdB rd on with
              | true =>
                clear hrb
                go_wp2_with fail
                go_roundw
                case rel => exact ⟨i + 1, fd, b, by omega, by go_num, rfl, HO2, HD, HH, HGr, HCl2, HB2⟩
                case measure => simp [RowKit.intOf]; omega
              | false =>
                have hr2 : rdB rd fd = true := by rw [hr1] at hrb; exact hrb
                clear hrb
                go_wp2_with fail
                go_roundw
                case rel => exact ⟨i + 1, fd, b, by omega, by go_num, rfl, HO2, HD, HH, HGr, HCl2, HB2⟩
                case measure => simp [RowKit.intOf]; omega
            · have d0 : decide (an ∈ fd) = false := decide_eq_false hin
              have HD2 : Hid ((fd ++ [an]).Nodup) := Lib.hid (nodup_snoc HD.out hin)
              have HH2 : Hid (∀ n ∈ fd ++ [an], Hng (lkS l) on n) := Lib.hid (HStep.out hrb)
              have HGr2 : Hid (found.length ≤ (fd ++ [an]).length ∧ (true = true → found.length < (fd ++ [an]).length)) := Lib.hid (by have := HGr.out.1; rw [List.length_append, List.length_singleton]; omega)
              obtain ⟨FD, hFD⟩ : ∃ FD, fd ++ [an] = FD := ⟨_, rfl⟩
              have HFD := Lib.hid hFD
              have hFl : FD.length = fd.length + 1 := by rw [← hFD, List.length_append, List.length_singleton]
              have HFl := Lib.hid hFl
              rw [hFD] at HD2 HH2 HGr2
              have b0 : Below w.heap.size w2 (w2.alloc (.cells #[.int .i64 an] 3)) := (Below.refl _ _).alloc HB2.out.size _
              have HB0 := Lib.hid b0
              clear HClN HCl hin hFD b0 hFl
              have hs2 := HB2.out.size
              cases hr1 : rdB rd on with
              | true =>
                clear hrb
                go_wp2_with (at_builtin; refine of_stop ?_)
                refine stop_of ?_
                refine wpList_append_rows (f := inW) (n := 1) (E := 3) (nb := 8) (X := fd) (base := w.heap.size) rfl _ _ rfl rfl (OwnR.below HO2.out ((Below.refl _ _).alloc (Nat.le_refl _) _)) (L2 := [an]) rfl (one_row w2 an) (by simp) (N := fd.length + 1) rfl (Z := FD) HFD.out Try.underlying23 hi0 hz0 hz1 hz2 rfl (by decide) (by decide) (fun _ => rfl) inW_one (by omega) (by simp; omega) ?_
                intro g4 k4' w4 ho4 hg4 hat4 hl4
                have hb4 : Below w.heap.size w2 w4 := Below.grown HB0.out hg4 (by simp; omega) (fun k hk => (World.ownsRow.lt HO2.out k hk).1)
                have HO4 := Lib.hid ho4
                have HB4 := Lib.hid (HB2.out.trans hb4)
                clear ho4 hg4 hat4 hl4 hb4
                go_wp2_with fail
                go_roundw
                case rel => exact ⟨i + 1, FD, true, by omega, by go_num, rfl, HO4, HD2, HH2, Lib.hid ⟨HGr2.out.1, fun _ => HGr2.out.2 trivial⟩, Lib.hid (fun h => by cases h), HB4⟩
                case measure => simp [RowKit.intOf]; omega
              | false =>
                have hr2 : rdB rd fd = true := by rw [hr1] at hrb; exact hrb
                clear hrb
                go_wp2_with (at_builtin; refine of_stop ?_)
                refine stop_of ?_
                refine wpList_append_rows (f := inW) (n := 1) (E := 3) (nb := 8) (X := fd) (base := w.heap.size) rfl _ _ rfl rfl (OwnR.below HO2.out ((Below.refl _ _).alloc (Nat.le_refl _) _)) (L2 := [an]) rfl (one_row w2 an) (by simp) (N := fd.length + 1) rfl (Z := FD) HFD.out Try.underlying23 hi0 hz0 hz1 hz2 rfl (by decide) (by decide) (fun _ => rfl) inW_one (by omega) (by simp; omega) ?_
                intro g4 k4' w4 ho4 hg4 hat4 hl4
                have hb4 : Below w.heap.size w2 w4 := Below.grown HB0.out hg4 (by simp; omega) (fun k hk => (World.ownsRow.lt HO2.out k hk).1)
                have HO4 := Lib.hid ho4
                have HB4 := Lib.hid (HB2.out.trans hb4)
                clear ho4 hg4 hat4 hl4 hb4
                go_wp2_with fail
                go_roundw
                case rel => exact ⟨i + 1, FD, true, by omega, by go_num, rfl, HO4, HD2, HH2, Lib.hid ⟨HGr2.out.1, fun _ => HGr2.out.2 trivial⟩, Lib.hid (fun h => by cases h), HB4⟩
                case measure => simp [RowKit.intOf]; omega
        · have hii : i = l.length := by omega
          subst hii
          have hgr := HGr.out
          have hc := HCl.out
          rw [List.take_length] at hc
          have HCl2 := Lib.hid hc
          have hm : hgM l.length fd.length b < gk := by
            have h1 := HGk.out
            unfold hgM at h1 ⊢
            cases b with
            | true => have := hgr.2 rfl; simp at h1 ⊢; omega
            | false => simp at h1 ⊢; omega
          have HM := Lib.hid hm
          clear hc hm hgr HCl
          go_wp2_with fail
          go_roundg (hgM l.length fd.length b)
          case rel => exact ⟨fd, b, rfl, rfl, HO, HD, HH, HCl2, HB⟩
          case measure => exact HM.out
end Go.Proofs.Ytbppkflgokfjhaa
