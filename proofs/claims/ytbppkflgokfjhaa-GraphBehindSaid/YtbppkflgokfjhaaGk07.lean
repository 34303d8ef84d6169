/- Texts joined: GpC. -/
import Derived.Test.YtbppkflgokfjhaaGk04
import Derived.Test.YtbppkflgokfjhaaGk06
set_option linter.all false
namespace Go.Proofs.Ytbppkflgokfjhaa
open Go.RowKit Go.Maps Go.Sort Go.Shelf
attribute [local go_sem] Oper.semAt_some
theorem heap_setCell_same {V : World} {B : Nat} {c : Array Value} {T : TypeId} {fr : Nat × Nat} (h1 : V.heap[B]? = some (.cells c T fr)) (j : Nat) (v : Value) : (V.setCell ⟨B, j, none⟩ v).heap[B]? = some (.cells (c.setIfInBounds j v) T fr) := by
  have hlt := (Array.getElem?_eq_some_iff.1 h1).1
  have he := (Array.getElem?_eq_some_iff.1 h1).2
  show (V.heap.modify B _)[B]? = _
  rw [Array.getElem?_eq_getElem (by rw [Array.size_modify]; exact hlt), Array.getElem_modify_self, he]
  rfl
theorem cells_putObj {w : World} {k l : Nat} {r : Loop} {cs : Array Value} {T : TypeId} {fr : Nat × Nat} (hk : w.heap[k]? = some (.cells cs T fr)) (hl : w.heap[l]? = some (.loop r)) (o : Obj) : (w.putObj l o).heap[k]? = w.heap[k]? := putObj_other o fun e => by
  rw [e, hl] at hk; cases hk
def CyI (L : List Lk) (ns : List Int) (B0 mt lc : Nat) (i : Nat) (V : World) : Prop := ∃ (C : List Int) (M : Int → Bool) (vl : Value), V.heap[lc]? = some (.cells #[vl] 23 (0, 0)) ∧ OwnR 3 1 inW B0 V vl C ∧ MkG V mt M ∧ Kos L (ns.drop (ns.length - i)) C M
theorem CyI.grow {L : List Lk} {ns : List Int} {B0 mt lc i : Nat} {A B : World} (hb : Below A.heap.size A B) (h : CyI L ns B0 mt lc i A) : CyI L ns B0 mt lc i B := by
  obtain ⟨C, M, vl, h1, h2, h3, h4⟩ := h
  exact ⟨C, M, vl, (hb.block _ (Array.getElem?_eq_some_iff.1 h1).1).trans h1, h2.below hb, h3.below hb, h4⟩
theorem CyI.turn {L : List Lk} {ns : List Int} {B0 mt lc i l : Nat} {A : World} {r : Loop} (o : Obj) (hl : A.heap[l]? = some (.loop r)) (h : CyI L ns B0 mt lc i A) : CyI L ns B0 mt lc i (A.putObj l o) := by
  obtain ⟨C, M, vl, h1, h2, h3, h4⟩ := h
  refine ⟨C, M, vl, (cells_putObj h1 hl o).trans h1, ownsRow_putObj h2 o hl rfl, ?_, h4⟩
  obtain ⟨c, m1, m2, m3⟩ := h3
  exact ⟨c, (cells_putObj m1 hl o).trans m1, m2, m3⟩
def CyC (w W1 : World) : Nat → Prop := fun k => k = w.heap.size + 1 ∨ k = w.heap.size + 1 + 1 ∨ W1.heap.size + 2 ≤ k
theorem drop_backG {l : List Int} {i : Nat} {q : Int} (h : l.reverse[i]? = some q) : l.drop (l.length - (i + 1)) = q :: l.drop (l.length - i) := by
  have hi : i < l.length := by have := (List.getElem?_eq_some_iff.1 h).1; rwa [List.length_reverse] at this
  rw [List.getElem?_reverse hi] at h
  have hlt : l.length - (i + 1) < l.length := by omega
  rw [List.drop_eq_getElem_cons hlt]
  rw [show l.length - 1 - i = l.length - (i + 1) from by omega, List.getElem?_eq_getElem hlt] at h
  rw [Option.some.inj h, show l.length - (i + 1) + 1 = l.length - i from by omega]
set_option maxHeartbeats 32000000 in
set_option maxRecDepth 100000 in
theorem pcyclic_any (w : World) (g : Nat) (L : List Lk) (hP : GP12 w g L) (hk : OkK L) (hL : L.length ≤ 60) :
    Calls Try.prog 13 #[.pointer (some ⟨g, 0, none⟩)] w fun e w' => GRow w (cycG L 1024) e w' := by
  obtain ⟨i0, hi0, hz0, hz1, hz2⟩ := info_parts gint_info
  obtain ⟨Wa, hWa⟩ : ∃ Wa, ((w.alloc (.cells #[.pointer (some ⟨g, 0, none⟩)] 26)).alloc (.cells Try.zeroCells59 59)).alloc (.cells #[.slice none 0 0] 23) = Wa := ⟨_, rfl⟩
  have hba : Below w.heap.size w Wa := by rw [← hWa]; exact (((Below.refl _ _).alloc (Nat.le_refl _) _).alloc (by simp) _).alloc (by simp; omega) _
  have hza : Wa.heap.size = w.heap.size + 3 := by rw [← hWa]; simp
  have hcg : Wa.cell? ⟨w.heap.size, 0, none⟩ = some (.pointer (some ⟨g, 0, none⟩)) := by rw [← hWa]; simp [go_sem]
  have hmk : MkG Wa (w.heap.size + 1) (fun _ => false) := by
    have h1 : MkG _ _ _ := Ar.made (T := 59) (enc := Value.bool) marksG_zero (w.alloc (.cells #[.pointer (some ⟨g, 0, none⟩)] 26))
    rw [show (w.alloc (.cells #[.pointer (some ⟨g, 0, none⟩)] 26)).heap.size = w.heap.size + 1 from by simp] at h1
    rw [← hWa]
    exact h1.below ((Below.refl _ _).alloc (Nat.le_refl _) _)
  have hlc : Wa.heap[w.heap.size + 1 + 1]? = some (.cells #[.slice none 0 0] 23 (0, 0)) := by
    have h1 := heap_alloc_new ((w.alloc (.cells #[.pointer (some ⟨g, 0, none⟩)] 26)).alloc (.cells Try.zeroCells59 59)) (.cells #[.slice none 0 0] 23)
    rw [show ((w.alloc (.cells #[.pointer (some ⟨g, 0, none⟩)] 26)).alloc (.cells Try.zeroCells59 59)).heap.size = w.heap.size + 1 + 1 from by simp] at h1
    rw [← hWa]; exact h1
  have HBe := Lib.hid (behind_any Wa g L (hP.below hba) hk)
  have HP := Lib.hid hP
  have HBa := Lib.hid hba
  have HK := Lib.hid hk
  have HMk := Lib.hid hmk
  have HLc := Lib.hid hlc
  clear hP hmk hk
  refine (callsIn_wide (n := 9)).1 (callsIn_of_wp_marks Try.func13 rfl trivial ?_ rfl)
  simp only [Try.ntmps13, List.size_toArray, List.length_cons, List.length_nil, Nat.reduceAdd, Nat.reduceSub, Array.replicate_succ, Array.replicate_zero, List.push_toArray, List.append_toArray, List.nil_append, List.cons_append]
  gi_wp2
  refine ⟨trivial, ?_⟩
  refine (callsIn_wide.2 HBe.out).mono ?_
  rintro e w1 ⟨ns, v, rfl, ho, hF, hd, hall, hok, hln, hb1⟩
  obtain ⟨A, cap, rfl, hcap, hA0, hrn⟩ := own_rowH ho
  have hnA : ∀ k, (ns ≠ [] ∧ ∃ o, A = some ⟨k, o, none⟩) → Wa.heap.size ≤ k ∧ k < w1.heap.size := by
    rintro k ⟨hne, o, e⟩
    rcases hrn with h | ⟨g', o', e', hp, hl, _⟩
    · exact absurd h hne
    · rw [e] at e'; cases e'; exact ⟨hp, hl⟩
  have hrb : RowB w1 A ns := fun hne => by
    rcases hrn with h | ⟨g', o', e', hp, hl, hh⟩
    · exact absurd h hne
    · exact ⟨g', o', e', fun i x hi => holds_row hh hi⟩
  obtain ⟨W1, hW1⟩ : ∃ W1, w1.alloc (.cells #[.slice A ns.length cap] 23) = W1 := ⟨_, rfl⟩
  have hb11 : Below w1.heap.size w1 W1 := by rw [← hW1]; exact (Below.refl _ _).alloc (Nat.le_refl _) _
  have hz1' : W1.heap.size = w1.heap.size + 1 := by rw [← hW1]; simp
  have hs0 : W1.cell? ⟨w1.heap.size, 0, none⟩ = some (.slice A ns.length cap) := by rw [← hW1]; simp [go_sem]
  have hzw := hb1.size
  have hbW : Below Wa.heap.size Wa W1 := hb1.trans (hb11.mono hzw)
  have hbw : Below w.heap.size w W1 := hba.trans (hbW.mono (by omega))
  have hmk1 : MkG W1 (w.heap.size + 1) (fun _ => false) := HMk.out.below hbW
  have hlc1 : W1.heap[w.heap.size + 1 + 1]? = some (.cells #[.slice none 0 0] 23 (0, 0)) := (hbW.block _ (by omega)).trans hlc
  have hcg1 : W1.cell? ⟨w.heap.size, 0, none⟩ = some (.pointer (some ⟨g, 0, none⟩)) := (hbW.cell (p := ⟨w.heap.size, 0, none⟩) (by show w.heap.size < _; omega)).trans hcg
  have hml : ns.length ≤ maxLen := by unfold maxLen; omega
  have HG := Lib.hid (fun w2 => gback_any A cap ns.length w2)
  have HFi := Lib.hid hF
  have HNd := Lib.hid hd
  have HAl := Lib.hid hall
  have HOk := Lib.hid hok
  clear hcg hlc ho hrn hF hd hall hok HMk HLc HBe
  gi_wp2
  refine ⟨trivial, ?_⟩
  refine (callsIn_wide.2 (HG.out _)).mono ?_
  rintro e w2 ⟨rfl, rfl⟩
  rw [hW1]
  clear HG
  gi_wp2
  refine wp_rangeG (gf := 44) (lb := #[.pointer (some ⟨w1.heap.size, 0, none⟩)]) rfl (enters_of Try.func44 (by kernel_rfl) rfl)
    (gback_yields hml hs0 (hrb.below hb11)) (Below.refl _ _) (fun x args h => by obtain ⟨i, rfl⟩ := h; rfl)
    (CyC w W1) (by
      rintro k hk
      have hk2 : k < Wa.heap.size ∨ W1.heap.size + 2 ≤ k := by rcases hk with h | h | h <;> omega
      refine ⟨by omega, ?_⟩
      rintro (h | h)
      · omega
      · have := hnA _ h; omega) (by rintro k (rfl | h); omega; have := (hnA _ h).2; omega)
    (fun i V => CyI L ns (W1.heap.size + 2) (w.heap.size + 1) (w.heap.size + 1 + 1) i V) (fun _ _ => False)
    (fun i A B hab h => h.grow hab) (fun i A l r o hl h => h.turn o hl) (fun _ _ _ _ _ _ h => h)
    ⟨[], fun _ => false, _, hlc1, World.ownsRow_nil _ _ _ _, hmk1, by rw [Nat.sub_zero, List.drop_length]; exact Kos.start L⟩
    (fun q a' V => ∃ (i : Int), a' = { tmps := #[.pointer (some ⟨g, 0, none⟩), .pointer (some ⟨w.heap.size, 0, none⟩), .slice none 0 0, .pointer (some ⟨w.heap.size + 1, 0, none⟩), .pointer (some ⟨w.heap.size + 1 + 1, 0, none⟩), undef, .int .i64 q, .pointer (some ⟨g, 0, none⟩), .bool false, .pointer (some ⟨g, 0, none⟩), .slice A ns.length cap, .func (.func 44) #[] #[.pointer (some ⟨w1.heap.size, 0, none⟩)], .int .i64 i, .int .i64 q, undef, undef, undef, undef, undef, undef, undef, undef, undef, undef, undef], defers := [] })
    (fun x a' V l' r o hl h => h)
    ?assign ?body ?done ?stop
  case assign =>
    rintro l' i x args V K hx ⟨ix, rfl⟩ hz hK
    gi_wp2
    exact hK _ _ (Below.refl _ _) ⟨ix, rfl⟩
  case body =>
    rintro l' i n a' V hx hsV hz2V ⟨C, M, vl, hcl, hov, hmk, hkos⟩ ⟨ix, rfl⟩
    gi_wp2
    have hc0 : V.cell? ⟨w.heap.size + 1 + 1, 0, none⟩ = some vl := by rw [Lib.cell_of_heap hcl]; rfl
    have hc1 : V.cell? ⟨w.heap.size, 0, none⟩ = some (.pointer (some ⟨g, 0, none⟩)) := hsV.cell (by rintro (h | h | h) <;> simp at h <;> omega) hcg1
    have HBV : ∀ X, Below V.heap.size V X → X.cell? ⟨w.heap.size + 1 + 1, 0, none⟩ = some vl ∧ X.cell? ⟨w.heap.size, 0, none⟩ = some (.pointer (some ⟨g, 0, none⟩)) := fun X hb => ⟨keep_cell hb hc0, keep_cell hb hc1⟩
    have hc0a := (HBV V.drew (Below.drew (Below.refl _ _))).1
    have hc1a := (HBV V.drew (Below.drew (Below.refl _ _))).2
    have hbq : ∀ q, Below V.heap.size V (V.alloc (.cells #[q] 3)).drew := fun q => Below.drew ((Below.refl _ _).alloc (Nat.le_refl _) _)
    have hc0b : ∀ q, (V.alloc (.cells #[q] 3)).drew.cell? ⟨w.heap.size + 1 + 1, 0, none⟩ = some vl := fun q => (HBV _ (hbq q)).1
    have hc1b : ∀ q, (V.alloc (.cells #[q] 3)).drew.cell? ⟨w.heap.size, 0, none⟩ = some (.pointer (some ⟨g, 0, none⟩)) := fun q => (HBV _ (hbq q)).2
    have hn : n ∈ ns := List.mem_reverse.1 (List.mem_of_getElem? hx)
    have hokn := HOk.out n hn
    obtain ⟨j, rfl⟩ : ∃ j : Nat, n = (j : Int) := ⟨n.toNat, by unfold okN at hokn; omega⟩
    have hj1 : j < 1024 := by unfold okN at hokn; omega
    have hwV : Below w.heap.size w V := hbw.trans (hsV.below (fun k hk h => by rcases h with h | h | h <;> omega) (by omega))
    have hzV : W1.heap.size ≤ V.heap.size := by omega
    have HCal := Lib.hid (hanging_any w _ g L HP.out (hwV.trans ((hbq (.int .i64 (j : Int))).mono (by omega))) HK.out hL (w.heap.size + 1) (by omega) M (hmk.below (hbq (.int .i64 (j : Int)))) [(j : Int)] (some ⟨V.heap.size, 0, none⟩) 1 (Q := fun _ => True) ((one_rowI V (j : Int)).below (Below.drew (Below.refl _ _))) (by simp) (fun x hx => (List.mem_singleton.1 hx).symm ▸ kb_ok hokn))
    have hfin : ∀ (w3 : World) (found : List Int) (M' : Int → Bool) (O : Option Addr), HgI L M [(j : Int)] found M' → (∀ n, n ∈ found ↔ Hng (unm L M) [(j : Int)] n) → MkG w3 (w.heap.size + 1) M' → RowH w3 (fun h => (V.alloc (.cells #[.int .i64 (j : Int)] 3)).drew.heap.size ≤ h) O found → ButG (w.heap.size + 1) (V.alloc (.cells #[.int .i64 (j : Int)] 3)).drew w3 →
        w3.cell? ⟨w.heap.size + 1 + 1, 0, none⟩ = some vl ∧ w3.frozen? ⟨w.heap.size + 1 + 1, 0, none⟩ = false ∧ ∀ c : Nat, ∃ A5 n5 c5 w5, (Builtin.append_ #[23, 23] 23 #[vl, .slice O found.length c]).run Try.prog w3 = .ok (.slice A5 n5 c5) w5 ∧ w5.cell? ⟨w.heap.size + 1 + 1, 0, none⟩ = some vl ∧ w5.frozen? ⟨w.heap.size + 1 + 1, 0, none⟩ = false ∧
          ((w5.setCell ⟨w.heap.size + 1 + 1, 0, none⟩ (.slice A5 n5 c5)).cell? ⟨w.heap.size + 1, j, none⟩ = some (.bool (M' (j : Int))) ∧ (w5.setCell ⟨w.heap.size + 1 + 1, 0, none⟩ (.slice A5 n5 c5)).frozen? ⟨w.heap.size + 1, j, none⟩ = false) ∧ Sav (CyC w W1) V ((w5.setCell ⟨w.heap.size + 1 + 1, 0, none⟩ (.slice A5 n5 c5)).setCell ⟨w.heap.size + 1, j, none⟩ (.bool true)) ∧ CyI L ns (W1.heap.size + 2) (w.heap.size + 1) (w.heap.size + 1 + 1) (i + 1) ((w5.setCell ⟨w.heap.size + 1 + 1, 0, none⟩ (.slice A5 n5 c5)).setCell ⟨w.heap.size + 1, j, none⟩ (.bool true)) := by
      intro w3 found M' O hI hf hM3 hr3 hbt
      have hVl : V.heap.size < (V.alloc (.cells #[.int .i64 (j : Int)] 3)).drew.heap.size := by simp
      have hl3 : w3.heap[w.heap.size + 1 + 1]? = some (.cells #[vl] 23 (0, 0)) := (hbt.block _ (by omega) (by omega)).trans (((hbq (.int .i64 (j : Int))).block _ (by omega)).trans hcl)
      have ho3 : OwnR 3 1 inW (W1.heap.size + 2) w3 vl C := OwnR.block (hov.below (hbq (.int .i64 (j : Int)))) fun q hq => by
        have := World.ownsRow.lt (hov.below (hbq (.int .i64 (j : Int)))) q hq
        exact hbt.block _ this.2 (by omega)
      have h30 : w3.cell? ⟨w.heap.size + 1 + 1, 0, none⟩ = some vl := by rw [Lib.cell_of_heap hl3]; rfl
      have h31 : w3.frozen? ⟨w.heap.size + 1 + 1, 0, none⟩ = false := frozen_ofG hl3 0
      refine ⟨h30, h31, fun c => ?_⟩
      have hCl : C.length ≤ 60 := Nat.le_trans (found_len (L := L) hkos.nd fun x hx => by
        obtain ⟨m, _, hs⟩ := (hkos.mem x).1 hx
        exact hng_node hs.1) hL
      have hfl : found.length ≤ 60 := Nat.le_trans hI.len hL
      have hz3 := hbt.size
      obtain ⟨v5, w5, hrun, ho5, hg5, hat5⟩ := run_append_all (c2 := c) 23 ho3 hr3.row hi0 hz0 hz1 hz2 rfl (by omega) (by omega)
      obtain ⟨A5, n5, rfl⟩ : ∃ A5 n5, v5 = .slice A5 (C ++ found).length n5 := by
        obtain ⟨A5, n5, e, _⟩ := own_rowG ho5
        exact ⟨A5, n5, e⟩
      have hown3 : ∀ q, vl.ownBlock = some q → W1.heap.size + 2 ≤ q := fun q hq => (World.ownsRow.lt ho3 q hq).1
      have hl5 : w5.heap[w.heap.size + 1 + 1]? = some (.cells #[vl] 23 (0, 0)) := (hg5.block _ (Array.getElem?_eq_some_iff.1 hl3).1 (fun e => by have := hown3 _ e.symm; omega)).trans hl3
      have hM5 : MkG w5 (w.heap.size + 1) M' := hM3.world (hg5.block _ hM3.lt fun e => by have := hown3 _ e.symm; omega)
      have hM6 : MkG (w5.setCell ⟨w.heap.size + 1 + 1, 0, none⟩ (.slice A5 (C ++ found).length n5)) (w.heap.size + 1) M' := hM5.world (Below.heap_setCell _ _ _ _ (by show w.heap.size + 1 ≠ w.heap.size + 1 + 1; omega))
      have hl6 : (w5.setCell ⟨w.heap.size + 1 + 1, 0, none⟩ (.slice A5 (C ++ found).length n5)).heap[w.heap.size + 1 + 1]? = some (.cells #[.slice A5 (C ++ found).length n5] 23 (0, 0)) := by
        exact heap_setCell_same hl5 0 (.slice A5 (C ++ found).length n5)
      have hown5 : ∀ q, (Value.slice A5 (C ++ found).length n5).ownBlock = some q → W1.heap.size + 2 ≤ q := fun q hq => (World.ownsRow.lt ho5 q hq).1
      have ho6 : OwnR 3 1 inW (W1.heap.size + 2) (w5.setCell ⟨w.heap.size + 1 + 1, 0, none⟩ (.slice A5 (C ++ found).length n5)) (.slice A5 (C ++ found).length n5) (C ++ found) := OwnR.block ho5 fun q hq => Below.heap_setCell _ _ _ q (fun e => by have h1 := hown5 q hq; have h2 : q = w.heap.size + 1 + 1 := e; omega)
      refine ⟨A5, (C ++ found).length, n5, w5, hrun, by rw [Lib.cell_of_heap hl5]; rfl, frozen_ofG hl5 0, hM6.cell hj1, ?_, ?_⟩
      · refine Sav.setCell (Sav.setCell ?_ (.inl (.inr (.inl rfl))) 0 (.slice A5 (C ++ found).length n5)) (.inl (.inl rfl)) j (.bool true)
        refine (Sav.of_below (hbq (.int .i64 (j : Int)))).trans ?_
        exact ⟨hg5.os.trans hbt.os, hg5.tape.trans hbt.tape, hg5.output.trans hbt.output, Nat.le_trans hbt.size hg5.size, fun k hk hn => (hg5.block k (by omega) (fun e => hn (.inr (.inr (hown3 k e.symm))))).trans (hbt.block k hk (fun e => hn (.inl e)))⟩
      · refine ⟨C ++ found, updB M' (j : Int), .slice A5 (C ++ found).length n5, ?_, OwnR.block ho6 (fun q hq => Below.heap_setCell _ _ _ q (fun e => by have h1 := hown5 q hq; have h2 : q = w.heap.size + 1 := e; omega)), hM6.set (enc := Value.bool) (j := j) true, ?_⟩
        · rw [Below.heap_setCell _ _ _ _ (by show w.heap.size + 1 + 1 ≠ w.heap.size + 1; omega)]; exact hl6
        · rw [drop_backG hx]
          have hi : i < ns.length := by have := (List.getElem?_eq_some_iff.1 hx).1; rwa [List.length_reverse] at this
          refine hkos.step (l := ns) (l1 := ns.take (ns.length - (i + 1))) HFi.out HAl.out HNd.out ?_ hI hf
          rw [← drop_backG hx, List.take_append_drop]
    have HFin := Lib.hid hfin
    clear hfin hcl hov hmk hkos hbq HBV hwV hx hn hokn
    refine wpIn_region_any (by kernel_rfl) ?_
    change wpAnyIn _ _ _ _ _ _ _ _ _ (World.drew _)
    refine wpAnyIn_ready (rs := [0, 1, 2]) (by kernel_rfl) (by simp) ?_
    refine AllReadyIn.cons rfl (fun K hK => ?_) (AllReadyIn.cons rfl (fun K hK => ?_) (AllReadyIn.cons rfl (fun K hK => ?_) (AllReadyIn.nil)))
    · go_simp
      refine hK _ _ ?_
      clear hK K
      refine wpAnyIn_ready (rs := [1, 2]) (by kernel_rfl) (by simp) ?_
      refine AllReadyIn.cons rfl (fun K hK => ?_) (AllReadyIn.cons rfl (fun K hK => ?_) (AllReadyIn.nil))
      · go_simp
        refine hK _ _ ?_
        clear hK K
        refine wpAnyIn_ready (rs := [2]) (by kernel_rfl) (by simp) ?_
        refine AllReadyIn.cons rfl (fun K hK => ?_) (AllReadyIn.nil)
        · go_simp
          refine hK _ _ ?_
          clear hK K
          refine wpAnyIn_ready (rs := [3]) (by kernel_rfl) (by simp) ?_
          refine AllReadyIn.cons rfl (fun K hK => ?_) (AllReadyIn.nil)
          · go_simp
            refine hK _ _ ?_
            clear hK K
            refine wpAnyIn_ready (rs := [4]) (by kernel_rfl) (by simp) ?_
            refine AllReadyIn.cons rfl (fun K hK => ?_) (AllReadyIn.nil)
            · go_simp
              refine ⟨trivial, ?_⟩
              refine (CallsIn.inRound l' (callsIn_wide.2 HCal.out)).mono ?_
              rintro e w3 ⟨found, M', O, c, rfl, _, hI, hf, hM3, hr3, hbt⟩
              obtain ⟨k0, k1, hk2⟩ := HFin.out w3 found M' O hI hf hM3 hr3 hbt
              obtain ⟨A5, n5, c5, w5, hrun, k2, k3, ⟨k4, k5⟩, hsv, hcy⟩ := hk2 c
              have HSv := Lib.hid hsv
              have HCy := Lib.hid hcy
              clear hI hf hM3 hr3 hbt hk2 hsv hcy
              refine hK _ _ ?_
              clear hK K
              refine wpAnyIn_ready (rs := [5]) (by kernel_rfl) (by simp) ?_
              refine AllReadyIn.cons rfl (fun K hK => ?_) (AllReadyIn.nil)
              · refine stepIn_append (by rfl) _ _ 23 (by rfl) (by rfl) (by rfl) hrun ?_
                refine hK _ _ ?_
                clear hK K
                refine wpAnyIn_ready (rs := [6]) (by kernel_rfl) (by simp) ?_
                refine AllReadyIn.cons rfl (fun K hK => ?_) (AllReadyIn.nil)
                · go_simp
                  refine hK _ _ ?_
                  clear hK K
                  refine wpAnyIn_done (by kernel_rfl) ?_ _
                  clear hc0a hc1a hc0b hc1b hrun k0 k1 k2 k3
                  gi_wp2
                  exact ⟨HSv.out, HCy.out⟩
      · go_simp
        refine hK _ _ ?_
        clear hK K
        refine wpAnyIn_ready (rs := [1, 3]) (by kernel_rfl) (by simp) ?_
        refine AllReadyIn.cons rfl (fun K hK => ?_) (AllReadyIn.cons rfl (fun K hK => ?_) (AllReadyIn.nil))
        · go_simp
          refine hK _ _ ?_
          clear hK K
          refine wpAnyIn_ready (rs := [3]) (by kernel_rfl) (by simp) ?_
          refine AllReadyIn.cons rfl (fun K hK => ?_) (AllReadyIn.nil)
          · go_simp
            refine hK _ _ ?_
            clear hK K
            refine wpAnyIn_ready (rs := [4]) (by kernel_rfl) (by simp) ?_
            refine AllReadyIn.cons rfl (fun K hK => ?_) (AllReadyIn.nil)
            · go_simp
              refine ⟨trivial, ?_⟩
              refine (CallsIn.inRound l' (callsIn_wide.2 HCal.out)).mono ?_
              rintro e w3 ⟨found, M', O, c, rfl, _, hI, hf, hM3, hr3, hbt⟩
              obtain ⟨k0, k1, hk2⟩ := HFin.out w3 found M' O hI hf hM3 hr3 hbt
              obtain ⟨A5, n5, c5, w5, hrun, k2, k3, ⟨k4, k5⟩, hsv, hcy⟩ := hk2 c
              have HSv := Lib.hid hsv
              have HCy := Lib.hid hcy
              clear hI hf hM3 hr3 hbt hk2 hsv hcy
              refine hK _ _ ?_
              clear hK K
              refine wpAnyIn_ready (rs := [5]) (by kernel_rfl) (by simp) ?_
              refine AllReadyIn.cons rfl (fun K hK => ?_) (AllReadyIn.nil)
              · refine stepIn_append (by rfl) _ _ 23 (by rfl) (by rfl) (by rfl) hrun ?_
                refine hK _ _ ?_
                clear hK K
                refine wpAnyIn_ready (rs := [6]) (by kernel_rfl) (by simp) ?_
                refine AllReadyIn.cons rfl (fun K hK => ?_) (AllReadyIn.nil)
                · go_simp
                  refine hK _ _ ?_
                  clear hK K
                  refine wpAnyIn_done (by kernel_rfl) ?_ _
                  clear hc0a hc1a hc0b hc1b hrun k0 k1 k2 k3
                  gi_wp2
                  exact ⟨HSv.out, HCy.out⟩
        · go_simp
          refine hK _ _ ?_
          clear hK K
          refine wpAnyIn_ready (rs := [1]) (by kernel_rfl) (by simp) ?_
          refine AllReadyIn.cons rfl (fun K hK => ?_) (AllReadyIn.nil)
          · go_simp
            refine hK _ _ ?_
            clear hK K
            refine wpAnyIn_ready (rs := [4]) (by kernel_rfl) (by simp) ?_
            refine AllReadyIn.cons rfl (fun K hK => ?_) (AllReadyIn.nil)
            · go_simp
              refine ⟨trivial, ?_⟩
              refine (CallsIn.inRound l' (callsIn_wide.2 HCal.out)).mono ?_
              rintro e w3 ⟨found, M', O, c, rfl, _, hI, hf, hM3, hr3, hbt⟩
              obtain ⟨k0, k1, hk2⟩ := HFin.out w3 found M' O hI hf hM3 hr3 hbt
              obtain ⟨A5, n5, c5, w5, hrun, k2, k3, ⟨k4, k5⟩, hsv, hcy⟩ := hk2 c
              have HSv := Lib.hid hsv
              have HCy := Lib.hid hcy
              clear hI hf hM3 hr3 hbt hk2 hsv hcy
              refine hK _ _ ?_
              clear hK K
              refine wpAnyIn_ready (rs := [5]) (by kernel_rfl) (by simp) ?_
              refine AllReadyIn.cons rfl (fun K hK => ?_) (AllReadyIn.nil)
              · refine stepIn_append (by rfl) _ _ 23 (by rfl) (by rfl) (by rfl) hrun ?_
                refine hK _ _ ?_
                clear hK K
                refine wpAnyIn_ready (rs := [6]) (by kernel_rfl) (by simp) ?_
                refine AllReadyIn.cons rfl (fun K hK => ?_) (AllReadyIn.nil)
                · go_simp
                  refine hK _ _ ?_
                  clear hK K
                  refine wpAnyIn_done (by kernel_rfl) ?_ _
                  clear hc0a hc1a hc0b hc1b hrun k0 k1 k2 k3
                  gi_wp2
                  exact ⟨HSv.out, HCy.out⟩
    · go_simp
      refine hK _ _ ?_
      clear hK K
      refine wpAnyIn_ready (rs := [0, 2]) (by kernel_rfl) (by simp) ?_
      refine AllReadyIn.cons rfl (fun K hK => ?_) (AllReadyIn.cons rfl (fun K hK => ?_) (AllReadyIn.nil))
      · go_simp
        refine hK _ _ ?_
        clear hK K
        refine wpAnyIn_ready (rs := [2]) (by kernel_rfl) (by simp) ?_
        refine AllReadyIn.cons rfl (fun K hK => ?_) (AllReadyIn.nil)
        · go_simp
          refine hK _ _ ?_
          clear hK K
          refine wpAnyIn_ready (rs := [3]) (by kernel_rfl) (by simp) ?_
          refine AllReadyIn.cons rfl (fun K hK => ?_) (AllReadyIn.nil)
          · go_simp
            refine hK _ _ ?_
            clear hK K
            refine wpAnyIn_ready (rs := [4]) (by kernel_rfl) (by simp) ?_
            refine AllReadyIn.cons rfl (fun K hK => ?_) (AllReadyIn.nil)
            · go_simp
              refine ⟨trivial, ?_⟩
              refine (CallsIn.inRound l' (callsIn_wide.2 HCal.out)).mono ?_
              rintro e w3 ⟨found, M', O, c, rfl, _, hI, hf, hM3, hr3, hbt⟩
              obtain ⟨k0, k1, hk2⟩ := HFin.out w3 found M' O hI hf hM3 hr3 hbt
              obtain ⟨A5, n5, c5, w5, hrun, k2, k3, ⟨k4, k5⟩, hsv, hcy⟩ := hk2 c
              have HSv := Lib.hid hsv
              have HCy := Lib.hid hcy
              clear hI hf hM3 hr3 hbt hk2 hsv hcy
              refine hK _ _ ?_
              clear hK K
              refine wpAnyIn_ready (rs := [5]) (by kernel_rfl) (by simp) ?_
              refine AllReadyIn.cons rfl (fun K hK => ?_) (AllReadyIn.nil)
              · refine stepIn_append (by rfl) _ _ 23 (by rfl) (by rfl) (by rfl) hrun ?_
                refine hK _ _ ?_
                clear hK K
                refine wpAnyIn_ready (rs := [6]) (by kernel_rfl) (by simp) ?_
                refine AllReadyIn.cons rfl (fun K hK => ?_) (AllReadyIn.nil)
                · go_simp
                  refine hK _ _ ?_
                  clear hK K
                  refine wpAnyIn_done (by kernel_rfl) ?_ _
                  clear hc0a hc1a hc0b hc1b hrun k0 k1 k2 k3
                  gi_wp2
                  exact ⟨HSv.out, HCy.out⟩
      · go_simp
        refine hK _ _ ?_
        clear hK K
        refine wpAnyIn_ready (rs := [0, 3]) (by kernel_rfl) (by simp) ?_
        refine AllReadyIn.cons rfl (fun K hK => ?_) (AllReadyIn.cons rfl (fun K hK => ?_) (AllReadyIn.nil))
        · go_simp
          refine hK _ _ ?_
          clear hK K
          refine wpAnyIn_ready (rs := [3]) (by kernel_rfl) (by simp) ?_
          refine AllReadyIn.cons rfl (fun K hK => ?_) (AllReadyIn.nil)
          · go_simp
            refine hK _ _ ?_
            clear hK K
            refine wpAnyIn_ready (rs := [4]) (by kernel_rfl) (by simp) ?_
            refine AllReadyIn.cons rfl (fun K hK => ?_) (AllReadyIn.nil)
            · go_simp
              refine ⟨trivial, ?_⟩
              refine (CallsIn.inRound l' (callsIn_wide.2 HCal.out)).mono ?_
              rintro e w3 ⟨found, M', O, c, rfl, _, hI, hf, hM3, hr3, hbt⟩
              obtain ⟨k0, k1, hk2⟩ := HFin.out w3 found M' O hI hf hM3 hr3 hbt
              obtain ⟨A5, n5, c5, w5, hrun, k2, k3, ⟨k4, k5⟩, hsv, hcy⟩ := hk2 c
              have HSv := Lib.hid hsv
              have HCy := Lib.hid hcy
              clear hI hf hM3 hr3 hbt hk2 hsv hcy
              refine hK _ _ ?_
              clear hK K
              refine wpAnyIn_ready (rs := [5]) (by kernel_rfl) (by simp) ?_
              refine AllReadyIn.cons rfl (fun K hK => ?_) (AllReadyIn.nil)
              · refine stepIn_append (by rfl) _ _ 23 (by rfl) (by rfl) (by rfl) hrun ?_
                refine hK _ _ ?_
                clear hK K
                refine wpAnyIn_ready (rs := [6]) (by kernel_rfl) (by simp) ?_
                refine AllReadyIn.cons rfl (fun K hK => ?_) (AllReadyIn.nil)
                · go_simp
                  refine hK _ _ ?_
                  clear hK K
                  refine wpAnyIn_done (by kernel_rfl) ?_ _
                  clear hc0a hc1a hc0b hc1b hrun k0 k1 k2 k3
                  gi_wp2
                  exact ⟨HSv.out, HCy.out⟩
        · go_simp
          refine hK _ _ ?_
          clear hK K
          refine wpAnyIn_ready (rs := [0, 4]) (by kernel_rfl) (by simp) ?_
          refine AllReadyIn.cons rfl (fun K hK => ?_) (AllReadyIn.cons rfl (fun K hK => ?_) (AllReadyIn.nil))
          · go_simp
            refine hK _ _ ?_
            clear hK K
            refine wpAnyIn_ready (rs := [4]) (by kernel_rfl) (by simp) ?_
            refine AllReadyIn.cons rfl (fun K hK => ?_) (AllReadyIn.nil)
            · go_simp
              refine ⟨trivial, ?_⟩
              refine (CallsIn.inRound l' (callsIn_wide.2 HCal.out)).mono ?_
              rintro e w3 ⟨found, M', O, c, rfl, _, hI, hf, hM3, hr3, hbt⟩
              obtain ⟨k0, k1, hk2⟩ := HFin.out w3 found M' O hI hf hM3 hr3 hbt
              obtain ⟨A5, n5, c5, w5, hrun, k2, k3, ⟨k4, k5⟩, hsv, hcy⟩ := hk2 c
              have HSv := Lib.hid hsv
              have HCy := Lib.hid hcy
              clear hI hf hM3 hr3 hbt hk2 hsv hcy
              refine hK _ _ ?_
              clear hK K
              refine wpAnyIn_ready (rs := [5]) (by kernel_rfl) (by simp) ?_
              refine AllReadyIn.cons rfl (fun K hK => ?_) (AllReadyIn.nil)
              · refine stepIn_append (by rfl) _ _ 23 (by rfl) (by rfl) (by rfl) hrun ?_
                refine hK _ _ ?_
                clear hK K
                refine wpAnyIn_ready (rs := [6]) (by kernel_rfl) (by simp) ?_
                refine AllReadyIn.cons rfl (fun K hK => ?_) (AllReadyIn.nil)
                · go_simp
                  refine hK _ _ ?_
                  clear hK K
                  refine wpAnyIn_done (by kernel_rfl) ?_ _
                  clear hc0a hc1a hc0b hc1b hrun k0 k1 k2 k3
                  gi_wp2
                  exact ⟨HSv.out, HCy.out⟩
          · go_simp
            refine ⟨trivial, ?_⟩
            refine (CallsIn.inRound l' (callsIn_wide.2 HCal.out)).mono ?_
            rintro e w3 ⟨found, M', O, c, rfl, _, hI, hf, hM3, hr3, hbt⟩
            obtain ⟨k0, k1, hk2⟩ := HFin.out w3 found M' O hI hf hM3 hr3 hbt
            obtain ⟨A5, n5, c5, w5, hrun, k2, k3, ⟨k4, k5⟩, hsv, hcy⟩ := hk2 c
            have HSv := Lib.hid hsv
            have HCy := Lib.hid hcy
            clear hI hf hM3 hr3 hbt hk2 hsv hcy
            refine hK _ _ ?_
            clear hK K
            refine wpAnyIn_ready (rs := [0]) (by kernel_rfl) (by simp) ?_
            refine AllReadyIn.cons rfl (fun K hK => ?_) (AllReadyIn.nil)
            · go_simp
              refine hK _ _ ?_
              clear hK K
              refine wpAnyIn_ready (rs := [5]) (by kernel_rfl) (by simp) ?_
              refine AllReadyIn.cons rfl (fun K hK => ?_) (AllReadyIn.nil)
              · refine stepIn_append (by rfl) _ _ 23 (by rfl) (by rfl) (by rfl) hrun ?_
                refine hK _ _ ?_
                clear hK K
                refine wpAnyIn_ready (rs := [6]) (by kernel_rfl) (by simp) ?_
                refine AllReadyIn.cons rfl (fun K hK => ?_) (AllReadyIn.nil)
                · go_simp
                  refine hK _ _ ?_
                  clear hK K
                  refine wpAnyIn_done (by kernel_rfl) ?_ _
                  clear hc0a hc1a hc0b hc1b hrun k0 k1 k2 k3
                  gi_wp2
                  exact ⟨HSv.out, HCy.out⟩
    · go_simp
      refine hK _ _ ?_
      clear hK K
      refine wpAnyIn_ready (rs := [0, 1, 3]) (by kernel_rfl) (by simp) ?_
      refine AllReadyIn.cons rfl (fun K hK => ?_) (AllReadyIn.cons rfl (fun K hK => ?_) (AllReadyIn.cons rfl (fun K hK => ?_) (AllReadyIn.nil)))
      · go_simp
        refine hK _ _ ?_
        clear hK K
        refine wpAnyIn_ready (rs := [1, 3]) (by kernel_rfl) (by simp) ?_
        refine AllReadyIn.cons rfl (fun K hK => ?_) (AllReadyIn.cons rfl (fun K hK => ?_) (AllReadyIn.nil))
        · go_simp
          refine hK _ _ ?_
          clear hK K
          refine wpAnyIn_ready (rs := [3]) (by kernel_rfl) (by simp) ?_
          refine AllReadyIn.cons rfl (fun K hK => ?_) (AllReadyIn.nil)
          · go_simp
            refine hK _ _ ?_
            clear hK K
            refine wpAnyIn_ready (rs := [4]) (by kernel_rfl) (by simp) ?_
            refine AllReadyIn.cons rfl (fun K hK => ?_) (AllReadyIn.nil)
            · go_simp
              refine ⟨trivial, ?_⟩
              refine (CallsIn.inRound l' (callsIn_wide.2 HCal.out)).mono ?_
              rintro e w3 ⟨found, M', O, c, rfl, _, hI, hf, hM3, hr3, hbt⟩
              obtain ⟨k0, k1, hk2⟩ := HFin.out w3 found M' O hI hf hM3 hr3 hbt
              obtain ⟨A5, n5, c5, w5, hrun, k2, k3, ⟨k4, k5⟩, hsv, hcy⟩ := hk2 c
              have HSv := Lib.hid hsv
              have HCy := Lib.hid hcy
              clear hI hf hM3 hr3 hbt hk2 hsv hcy
              refine hK _ _ ?_
              clear hK K
              refine wpAnyIn_ready (rs := [5]) (by kernel_rfl) (by simp) ?_
              refine AllReadyIn.cons rfl (fun K hK => ?_) (AllReadyIn.nil)
              · refine stepIn_append (by rfl) _ _ 23 (by rfl) (by rfl) (by rfl) hrun ?_
                refine hK _ _ ?_
                clear hK K
                refine wpAnyIn_ready (rs := [6]) (by kernel_rfl) (by simp) ?_
                refine AllReadyIn.cons rfl (fun K hK => ?_) (AllReadyIn.nil)
                · go_simp
                  refine hK _ _ ?_
                  clear hK K
                  refine wpAnyIn_done (by kernel_rfl) ?_ _
                  clear hc0a hc1a hc0b hc1b hrun k0 k1 k2 k3
                  gi_wp2
                  exact ⟨HSv.out, HCy.out⟩
        · go_simp
          refine hK _ _ ?_
          clear hK K
          refine wpAnyIn_ready (rs := [1]) (by kernel_rfl) (by simp) ?_
          refine AllReadyIn.cons rfl (fun K hK => ?_) (AllReadyIn.nil)
          · go_simp
            refine hK _ _ ?_
            clear hK K
            refine wpAnyIn_ready (rs := [4]) (by kernel_rfl) (by simp) ?_
            refine AllReadyIn.cons rfl (fun K hK => ?_) (AllReadyIn.nil)
            · go_simp
              refine ⟨trivial, ?_⟩
              refine (CallsIn.inRound l' (callsIn_wide.2 HCal.out)).mono ?_
              rintro e w3 ⟨found, M', O, c, rfl, _, hI, hf, hM3, hr3, hbt⟩
              obtain ⟨k0, k1, hk2⟩ := HFin.out w3 found M' O hI hf hM3 hr3 hbt
              obtain ⟨A5, n5, c5, w5, hrun, k2, k3, ⟨k4, k5⟩, hsv, hcy⟩ := hk2 c
              have HSv := Lib.hid hsv
              have HCy := Lib.hid hcy
              clear hI hf hM3 hr3 hbt hk2 hsv hcy
              refine hK _ _ ?_
              clear hK K
              refine wpAnyIn_ready (rs := [5]) (by kernel_rfl) (by simp) ?_
              refine AllReadyIn.cons rfl (fun K hK => ?_) (AllReadyIn.nil)
              · refine stepIn_append (by rfl) _ _ 23 (by rfl) (by rfl) (by rfl) hrun ?_
                refine hK _ _ ?_
                clear hK K
                refine wpAnyIn_ready (rs := [6]) (by kernel_rfl) (by simp) ?_
                refine AllReadyIn.cons rfl (fun K hK => ?_) (AllReadyIn.nil)
                · go_simp
                  refine hK _ _ ?_
                  clear hK K
                  refine wpAnyIn_done (by kernel_rfl) ?_ _
                  clear hc0a hc1a hc0b hc1b hrun k0 k1 k2 k3
                  gi_wp2
                  exact ⟨HSv.out, HCy.out⟩
      · go_simp
        refine hK _ _ ?_
        clear hK K
        refine wpAnyIn_ready (rs := [0, 3]) (by kernel_rfl) (by simp) ?_
        refine AllReadyIn.cons rfl (fun K hK => ?_) (AllReadyIn.cons rfl (fun K hK => ?_) (AllReadyIn.nil))
        · go_simp
          refine hK _ _ ?_
          clear hK K
          refine wpAnyIn_ready (rs := [3]) (by kernel_rfl) (by simp) ?_
          refine AllReadyIn.cons rfl (fun K hK => ?_) (AllReadyIn.nil)
          · go_simp
            refine hK _ _ ?_
            clear hK K
            refine wpAnyIn_ready (rs := [4]) (by kernel_rfl) (by simp) ?_
            refine AllReadyIn.cons rfl (fun K hK => ?_) (AllReadyIn.nil)
            · go_simp
              refine ⟨trivial, ?_⟩
              refine (CallsIn.inRound l' (callsIn_wide.2 HCal.out)).mono ?_
              rintro e w3 ⟨found, M', O, c, rfl, _, hI, hf, hM3, hr3, hbt⟩
              obtain ⟨k0, k1, hk2⟩ := HFin.out w3 found M' O hI hf hM3 hr3 hbt
              obtain ⟨A5, n5, c5, w5, hrun, k2, k3, ⟨k4, k5⟩, hsv, hcy⟩ := hk2 c
              have HSv := Lib.hid hsv
              have HCy := Lib.hid hcy
              clear hI hf hM3 hr3 hbt hk2 hsv hcy
              refine hK _ _ ?_
              clear hK K
              refine wpAnyIn_ready (rs := [5]) (by kernel_rfl) (by simp) ?_
              refine AllReadyIn.cons rfl (fun K hK => ?_) (AllReadyIn.nil)
              · refine stepIn_append (by rfl) _ _ 23 (by rfl) (by rfl) (by rfl) hrun ?_
                refine hK _ _ ?_
                clear hK K
                refine wpAnyIn_ready (rs := [6]) (by kernel_rfl) (by simp) ?_
                refine AllReadyIn.cons rfl (fun K hK => ?_) (AllReadyIn.nil)
                · go_simp
                  refine hK _ _ ?_
                  clear hK K
                  refine wpAnyIn_done (by kernel_rfl) ?_ _
                  clear hc0a hc1a hc0b hc1b hrun k0 k1 k2 k3
                  gi_wp2
                  exact ⟨HSv.out, HCy.out⟩
        · go_simp
          refine hK _ _ ?_
          clear hK K
          refine wpAnyIn_ready (rs := [0, 4]) (by kernel_rfl) (by simp) ?_
          refine AllReadyIn.cons rfl (fun K hK => ?_) (AllReadyIn.cons rfl (fun K hK => ?_) (AllReadyIn.nil))
          · go_simp
            refine hK _ _ ?_
            clear hK K
            refine wpAnyIn_ready (rs := [4]) (by kernel_rfl) (by simp) ?_
            refine AllReadyIn.cons rfl (fun K hK => ?_) (AllReadyIn.nil)
            · go_simp
              refine ⟨trivial, ?_⟩
              refine (CallsIn.inRound l' (callsIn_wide.2 HCal.out)).mono ?_
              rintro e w3 ⟨found, M', O, c, rfl, _, hI, hf, hM3, hr3, hbt⟩
              obtain ⟨k0, k1, hk2⟩ := HFin.out w3 found M' O hI hf hM3 hr3 hbt
              obtain ⟨A5, n5, c5, w5, hrun, k2, k3, ⟨k4, k5⟩, hsv, hcy⟩ := hk2 c
              have HSv := Lib.hid hsv
              have HCy := Lib.hid hcy
              clear hI hf hM3 hr3 hbt hk2 hsv hcy
              refine hK _ _ ?_
              clear hK K
              refine wpAnyIn_ready (rs := [5]) (by kernel_rfl) (by simp) ?_
              refine AllReadyIn.cons rfl (fun K hK => ?_) (AllReadyIn.nil)
              · refine stepIn_append (by rfl) _ _ 23 (by rfl) (by rfl) (by rfl) hrun ?_
                refine hK _ _ ?_
                clear hK K
                refine wpAnyIn_ready (rs := [6]) (by kernel_rfl) (by simp) ?_
                refine AllReadyIn.cons rfl (fun K hK => ?_) (AllReadyIn.nil)
                · go_simp
                  refine hK _ _ ?_
                  clear hK K
                  refine wpAnyIn_done (by kernel_rfl) ?_ _
                  clear hc0a hc1a hc0b hc1b hrun k0 k1 k2 k3
                  gi_wp2
                  exact ⟨HSv.out, HCy.out⟩
          · go_simp
            refine ⟨trivial, ?_⟩
            refine (CallsIn.inRound l' (callsIn_wide.2 HCal.out)).mono ?_
            rintro e w3 ⟨found, M', O, c, rfl, _, hI, hf, hM3, hr3, hbt⟩
            obtain ⟨k0, k1, hk2⟩ := HFin.out w3 found M' O hI hf hM3 hr3 hbt
            obtain ⟨A5, n5, c5, w5, hrun, k2, k3, ⟨k4, k5⟩, hsv, hcy⟩ := hk2 c
            have HSv := Lib.hid hsv
            have HCy := Lib.hid hcy
            clear hI hf hM3 hr3 hbt hk2 hsv hcy
            refine hK _ _ ?_
            clear hK K
            refine wpAnyIn_ready (rs := [0]) (by kernel_rfl) (by simp) ?_
            refine AllReadyIn.cons rfl (fun K hK => ?_) (AllReadyIn.nil)
            · go_simp
              refine hK _ _ ?_
              clear hK K
              refine wpAnyIn_ready (rs := [5]) (by kernel_rfl) (by simp) ?_
              refine AllReadyIn.cons rfl (fun K hK => ?_) (AllReadyIn.nil)
              · refine stepIn_append (by rfl) _ _ 23 (by rfl) (by rfl) (by rfl) hrun ?_
                refine hK _ _ ?_
                clear hK K
                refine wpAnyIn_ready (rs := [6]) (by kernel_rfl) (by simp) ?_
                refine AllReadyIn.cons rfl (fun K hK => ?_) (AllReadyIn.nil)
                · go_simp
                  refine hK _ _ ?_
                  clear hK K
                  refine wpAnyIn_done (by kernel_rfl) ?_ _
                  clear hc0a hc1a hc0b hc1b hrun k0 k1 k2 k3
                  gi_wp2
                  exact ⟨HSv.out, HCy.out⟩
      · go_simp
        refine hK _ _ ?_
        clear hK K
        refine wpAnyIn_ready (rs := [0, 1]) (by kernel_rfl) (by simp) ?_
        refine AllReadyIn.cons rfl (fun K hK => ?_) (AllReadyIn.cons rfl (fun K hK => ?_) (AllReadyIn.nil))
        · go_simp
          refine hK _ _ ?_
          clear hK K
          refine wpAnyIn_ready (rs := [1]) (by kernel_rfl) (by simp) ?_
          refine AllReadyIn.cons rfl (fun K hK => ?_) (AllReadyIn.nil)
          · go_simp
            refine hK _ _ ?_
            clear hK K
            refine wpAnyIn_ready (rs := [4]) (by kernel_rfl) (by simp) ?_
            refine AllReadyIn.cons rfl (fun K hK => ?_) (AllReadyIn.nil)
            · go_simp
              refine ⟨trivial, ?_⟩
              refine (CallsIn.inRound l' (callsIn_wide.2 HCal.out)).mono ?_
              rintro e w3 ⟨found, M', O, c, rfl, _, hI, hf, hM3, hr3, hbt⟩
              obtain ⟨k0, k1, hk2⟩ := HFin.out w3 found M' O hI hf hM3 hr3 hbt
              obtain ⟨A5, n5, c5, w5, hrun, k2, k3, ⟨k4, k5⟩, hsv, hcy⟩ := hk2 c
              have HSv := Lib.hid hsv
              have HCy := Lib.hid hcy
              clear hI hf hM3 hr3 hbt hk2 hsv hcy
              refine hK _ _ ?_
              clear hK K
              refine wpAnyIn_ready (rs := [5]) (by kernel_rfl) (by simp) ?_
              refine AllReadyIn.cons rfl (fun K hK => ?_) (AllReadyIn.nil)
              · refine stepIn_append (by rfl) _ _ 23 (by rfl) (by rfl) (by rfl) hrun ?_
                refine hK _ _ ?_
                clear hK K
                refine wpAnyIn_ready (rs := [6]) (by kernel_rfl) (by simp) ?_
                refine AllReadyIn.cons rfl (fun K hK => ?_) (AllReadyIn.nil)
                · go_simp
                  refine hK _ _ ?_
                  clear hK K
                  refine wpAnyIn_done (by kernel_rfl) ?_ _
                  clear hc0a hc1a hc0b hc1b hrun k0 k1 k2 k3
                  gi_wp2
                  exact ⟨HSv.out, HCy.out⟩
        · go_simp
          refine hK _ _ ?_
          clear hK K
          refine wpAnyIn_ready (rs := [0, 4]) (by kernel_rfl) (by simp) ?_
          refine AllReadyIn.cons rfl (fun K hK => ?_) (AllReadyIn.cons rfl (fun K hK => ?_) (AllReadyIn.nil))
          · go_simp
            refine hK _ _ ?_
            clear hK K
            refine wpAnyIn_ready (rs := [4]) (by kernel_rfl) (by simp) ?_
            refine AllReadyIn.cons rfl (fun K hK => ?_) (AllReadyIn.nil)
            · go_simp
              refine ⟨trivial, ?_⟩
              refine (CallsIn.inRound l' (callsIn_wide.2 HCal.out)).mono ?_
              rintro e w3 ⟨found, M', O, c, rfl, _, hI, hf, hM3, hr3, hbt⟩
              obtain ⟨k0, k1, hk2⟩ := HFin.out w3 found M' O hI hf hM3 hr3 hbt
              obtain ⟨A5, n5, c5, w5, hrun, k2, k3, ⟨k4, k5⟩, hsv, hcy⟩ := hk2 c
              have HSv := Lib.hid hsv
              have HCy := Lib.hid hcy
              clear hI hf hM3 hr3 hbt hk2 hsv hcy
              refine hK _ _ ?_
              clear hK K
              refine wpAnyIn_ready (rs := [5]) (by kernel_rfl) (by simp) ?_
              refine AllReadyIn.cons rfl (fun K hK => ?_) (AllReadyIn.nil)
              · refine stepIn_append (by rfl) _ _ 23 (by rfl) (by rfl) (by rfl) hrun ?_
                refine hK _ _ ?_
                clear hK K
                refine wpAnyIn_ready (rs := [6]) (by kernel_rfl) (by simp) ?_
                refine AllReadyIn.cons rfl (fun K hK => ?_) (AllReadyIn.nil)
                · go_simp
                  refine hK _ _ ?_
                  clear hK K
                  refine wpAnyIn_done (by kernel_rfl) ?_ _
                  clear hc0a hc1a hc0b hc1b hrun k0 k1 k2 k3
                  gi_wp2
                  exact ⟨HSv.out, HCy.out⟩
          · go_simp
            refine ⟨trivial, ?_⟩
            refine (CallsIn.inRound l' (callsIn_wide.2 HCal.out)).mono ?_
            rintro e w3 ⟨found, M', O, c, rfl, _, hI, hf, hM3, hr3, hbt⟩
            obtain ⟨k0, k1, hk2⟩ := HFin.out w3 found M' O hI hf hM3 hr3 hbt
            obtain ⟨A5, n5, c5, w5, hrun, k2, k3, ⟨k4, k5⟩, hsv, hcy⟩ := hk2 c
            have HSv := Lib.hid hsv
            have HCy := Lib.hid hcy
            clear hI hf hM3 hr3 hbt hk2 hsv hcy
            refine hK _ _ ?_
            clear hK K
            refine wpAnyIn_ready (rs := [0]) (by kernel_rfl) (by simp) ?_
            refine AllReadyIn.cons rfl (fun K hK => ?_) (AllReadyIn.nil)
            · go_simp
              refine hK _ _ ?_
              clear hK K
              refine wpAnyIn_ready (rs := [5]) (by kernel_rfl) (by simp) ?_
              refine AllReadyIn.cons rfl (fun K hK => ?_) (AllReadyIn.nil)
              · refine stepIn_append (by rfl) _ _ 23 (by rfl) (by rfl) (by rfl) hrun ?_
                refine hK _ _ ?_
                clear hK K
                refine wpAnyIn_ready (rs := [6]) (by kernel_rfl) (by simp) ?_
                refine AllReadyIn.cons rfl (fun K hK => ?_) (AllReadyIn.nil)
                · go_simp
                  refine hK _ _ ?_
                  clear hK K
                  refine wpAnyIn_done (by kernel_rfl) ?_ _
                  clear hc0a hc1a hc0b hc1b hrun k0 k1 k2 k3
                  gi_wp2
                  exact ⟨HSv.out, HCy.out⟩
  case done =>
    rintro D V hD hsV ⟨C, M, vl, hcl, hov, hmk, hkos⟩ hK
    rw [List.length_reverse, Nat.sub_self, List.drop_zero] at hkos
    have hS : C.mergeSort leI = cycG L 1024 := sort_is hkos.nd (upto_rise _ _) fun x => by
      rw [hkos.all HAl.out x, cycG_mem HK.out]
    have hlen : (cycG L 1024).length = C.length := by rw [← hS]; simp
    have hll : C.length ≤ 1024 := by rw [← hlen]; exact upto_len _ _
    obtain ⟨A5, c5, rfl, hk5, _, hr5⟩ := own_rowH hov
    have hDA : ∀ o, A5 ≠ some ⟨D, o, none⟩ := by
      rintro o rfl
      rcases hov.2 with ⟨e, _⟩ | ⟨g2, cap2, cur, e2, _, hh, _⟩
      · cases e
      · injection e2 with e3 _ _
        cases e3
        rw [hK] at hh; cases hh
    have hDV : D < V.heap.size := (Array.getElem?_eq_some_iff.1 hK).1
    have hzV := hsV.size
    have HT := Lib.hid (sort_row C A5 c5 V hr5 (by omega) (w.heap.size + 3) (fun k hk => by omega) (by omega))
    have hc0 : V.cell? ⟨w.heap.size + 1 + 1, 0, none⟩ = some (.slice A5 C.length c5) := by rw [Lib.cell_of_heap hcl]; rfl
    have HcV := Lib.hid hcl
    have HbV : Hid (Below w.heap.size w V) := Lib.hid (hbw.trans (hsV.below (fun k hk h => by rcases h with h | h | h <;> omega) (by omega)))
    have HKD := Lib.hid hK
    have HS := Lib.hid hS
    have HLe := Lib.hid hlen
    have HDA := Lib.hid hDA
    clear hcl hov hmk hkos hK hS hlen hDA hsV hr5
    gi_wp2
    refine ⟨trivial, ?_⟩
    refine (callsIn_wide.2 HT.out).mono ?_
    rintro e w3 ⟨rfl, hr3, hb3, ho3⟩
    rw [HS.out] at hr3
    have hKr : w3.heap[D]? = some (.deferred (some [])) := (ho3 D hDV HDA.out).trans HKD.out
    have hc3 : w3.cell? ⟨w.heap.size + 1 + 1, 0, none⟩ = some (.slice A5 C.length c5) := (hb3.cell (p := ⟨w.heap.size + 1 + 1, 0, none⟩) (by show w.heap.size + 1 + 1 < _; omega)).trans hc0
    have HR3 : Hid (RowI (w3.putObj D (.deferred none)) (fun h => w.heap.size ≤ h) A5 (cycG L 1024)) := Lib.hid (by
      rcases hr3.row with h | ⟨g3, o3, e3, hp3, hl3, hc⟩
      · exact .inl h
      · exact .inr ⟨g3, o3, e3, by omega, by rw [World.putObj_size]; exact hl3, fun i x hi => (World.cell?_of_block (w := w3) (putObj_other _ (fun e => HDA.out o3 (by rw [e3]; exact congrArg (fun q => some (⟨q, o3, none⟩ : Addr)) e)))).trans (hc i x hi)⟩)
    clear ho3 hr3 hc0
    gi_wp2
    refine ⟨by simp, .inl ⟨_, _, rfl, run_takeDeferred hKr, ?_⟩⟩
    refine ⟨_, results_tmp rfl _ _ _, A5, c5, by rw [HLe.out]; rfl, by rw [HLe.out]; exact hk5, ?_, ?_⟩
    · exact HR3.out
    · exact below_putObj (HbV.out.trans (hb3.mono (by omega))) (by omega) _
  case stop =>
    rintro D c V hD hsV h hK
    exact h.elim
end Go.Proofs.Ytbppkflgokfjhaa
