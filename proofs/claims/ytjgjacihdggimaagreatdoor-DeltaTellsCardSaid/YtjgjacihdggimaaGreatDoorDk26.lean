/- Texts joined: DfR, DfT, DfO, DfA, DfB, TqKt. -/
import Derived.Test.YtjgjacihdggimaaGreatDoorDk22
import Derived.Test.YtjgjacihdggimaaGreatDoorDk25
import Derived.Test.YtjgjacihdggimaaGreatDoorDk05
import Derived.Test.YtjgjacihdggimaaGreatDoorDk03
import Derived.Test.YtjgjacihdggimaaGreatDoorDk04
set_option linter.all false
namespace Go.Proofs.YtjgjacihdggimaaGreatDoor
open Go.RowKit Go.Shelf
theorem bld_next {l : List En} {i : Nat} {x : En} (hx : l[i]? = some x) : bldF (l.take (i + 1)) = setX (bldF (l.take i)) x.key.toNat x.text := by
  unfold bldF
  rw [List.take_add_one, hx, List.foldl_append]; rfl
theorem has_self (s : Sh) (h : Int) : hasT s h = if (hasT s h).isSome = true then some (entX (bldF ((hasT s h).getD [])) 1024) else none := by
  cases e : hasT s h with
  | none => rfl
  | some l => exact (congrArg some (bld_self (hasT_is e).1).symm).trans (if_pos rfl).symm
theorem has_right (s : Sh) (h : Int) : ∀ x ∈ (hasT s h).getD [], rightE x = true := by
  cases e : hasT s h with
  | none => intro x hx; cases hx
  | some l => exact (hasT_is e).1.1
theorem has_len (s : Sh) (h : Int) : ((hasT s h).getD []).length ≤ 1024 := by
  cases e : hasT s h with
  | none => exact Nat.zero_le _
  | some l => exact okL_len (hasT_is e).1
theorem has_pos (s : Sh) (h : Int) (q : 0 < ((hasT s h).getD []).length) : (hasT s h).isSome = true := by
  cases e : hasT s h with
  | none => rw [e] at q; cases q
  | some l => rfl
def DrQ (w : World) (L : List En) (bS : Bool) (e : Ending) (w' : World) : Prop := ∃ f, e = .returned (.tuple #[.agg (txC f), .bool bS]) ∧ f = bldF L ∧ Below w.heap.size w w'
set_option maxHeartbeats 16000000 in
set_option maxRecDepth 10000 in
theorem pdread_of {w : World} (pa : Value) (h : Int) (L : List En) (bS : Bool) (hAl : ∀ w1, Below w.heap.size w w1 → Calls Tryz.prog 21 #[pa, .int .i64 h] w1 fun e w' => ∃ O co, e = .returned (.slice O L.length co) ∧ L.length ≤ co ∧ RowE w' (fun g => w1.heap.size ≤ g) O L ∧ Below w1.heap.size w1 w')
    (hIs : ∀ w1, Below w.heap.size w w1 → Calls Tryz.prog 34 #[pa, .int .i64 h] w1 fun e w' => e = .returned (.bool bS) ∧ Below w1.heap.size w1 w') (hRt : ∀ x ∈ L, rightE x = true) (hPo : 0 < L.length → bS = true) (hLn : L.length ≤ 1024) :
    Calls Tryz.prog 32 #[pa, .int .i64 h] w fun e w' => DrQ w L bS e w' := by
  have HAl := Lib.hid hAl
  have HIs := Lib.hid hIs
  have HRt := Lib.hid hRt
  have HPo := Lib.hid hPo
  have HPost : Hid (∀ (f : Txs) (w' : World), f = bldF L → Below w.heap.size w w' → DrQ w L bS (.returned (.tuple #[.agg (txC f), .bool bS])) w') := Lib.hid fun f w' h1 h2 => ⟨f, rfl, h1, h2⟩
  clear hIs hRt hPo
  obtain ⟨W2, hW2⟩ : ∃ W2, (w.alloc (.cells Tryz.zeroCells80 80)).alloc (.cells Tryz.zeroCells80 80) = W2 := ⟨_, rfl⟩
  have hb2 : Below w.heap.size w W2 := by rw [← hW2]; exact ((Below.refl _ _).alloc (Nat.le_refl _) _).alloc (by simp) _
  have hz2 : W2.heap.size = w.heap.size + 2 := by rw [← hW2]; simp
  have hT2 : TD W2 (w.heap.size + 1) (fun _ => []) := by
    rw [← hW2]
    have := heap_alloc2_new w (.cells Tryz.zeroCells80 80) (.cells Tryz.zeroCells80 80)
    rw [dtx_zero] at this
    exact this
  have hR2 : TD W2 w.heap.size (fun _ => []) := by
    rw [← hW2]
    have := heap_alloc2_old w (.cells Tryz.zeroCells80 80) (.cells Tryz.zeroCells80 80)
    rw [dtx_zero] at this
    exact this
  have HC := Lib.hid (HAl.out _ hb2)
  have Hb2 := Lib.hid hb2
  have HT2 := Lib.hid hT2
  have HR2 := Lib.hid hR2
  clear hAl hb2 hT2 hR2 HAl
  go_enter Tryz.func32, Tryz.ntmps32
  go_wp2_with fail
  refine HC.out.mono ?_; rintro e w4 ⟨O, co, rfl, hco, hrow, hb4⟩
  have HRow := Lib.hid hrow
  have hs4 : w.heap.size + 2 ≤ w4.heap.size := by have := hb4.size; omega
  have HTx4 := Lib.hid (HT2.out.below hb4)
  have HRs4 := Lib.hid (HR2.out.below hb4)
  have Hbw4 := Lib.hid (Hb2.out.trans (hb4.mono Hb2.out.size))
  clear hrow hb4 HT2 HR2 Hb2 HC
  go_wp2_with fail
  go_loopw [15] (fun vi wr => ∃ i : Nat, i ≤ L.length ∧ vi = .int .i64 (i : Int) ∧ Hid (TD wr (w.heap.size + 1) (bldF (L.take i))) ∧ Hid (ButS (fun g => g = w.heap.size + 1) w4 wr)) (fun vi _ => L.length - (RowKit.intOf vi).toNat)
  case atStart => exact ⟨0, Nat.zero_le _, rfl, Lib.hid (by rw [List.take_zero]; exact HTx4.out), Lib.hid (ButS.refl _ _)⟩
  case round =>
    obtain ⟨i, hi, rfl, HTx, HBu⟩ := hrel
    have hszr := HBu.out.size
    by_cases hlt : i < L.length
    · obtain ⟨x, hx⟩ : ∃ x, L[i]? = some x := ⟨_, List.getElem?_eq_getElem hlt⟩
      obtain ⟨gL, oL, rfl, hgL, hgl, hcL⟩ := HRow.out.at hlt
      have hgL2 : w.heap.size + 2 ≤ gL := by have h1 : W2.heap.size ≤ gL := hgL; omega
      obtain ⟨q0, q1⟩ := hcL.two hx
      have k0 := HBu.out.cell (p := ⟨gL, oL + i * 2, none⟩) (fun e => by have e : gL = w.heap.size + 1 := e; omega) q0
      have k1 := HBu.out.cell (p := ⟨gL, oL + i * 2 + 1, none⟩) (fun e => by have e : gL = w.heap.size + 1 := e; omega) q1
      have hri := right_iffE.1 (HRt.out x (List.mem_of_getElem? hx))
      have HSn := Lib.hid (bld_next hx)
      have hkI : (i : Int) < (L.length : Int) := by omega
      obtain ⟨kx, tx⟩ := x
      have hrb : 0 ≤ kx := hri.1
      have hrc : kx ≤ 1023 := hri.2.1
      obtain ⟨j, rfl⟩ : ∃ j : Nat, kx = (j : Int) := ⟨kx.toNat, by omega⟩
      have hj : j < 1024 := by omega
      have hba : Below wr.heap.size wr (wr.alloc (.cells #[.int .i64 (j : Int), .string ⟨tx.toArray⟩] 60)) := (Below.refl _ _).alloc (Nat.le_refl _) _
      have hT1 := HTx.out.below hba
      have t0 := hT1.cell hj
      have t1 := hT1.frozen j
      have zT := hT1.lt
      have hT2 := hT1.set hj tx
      have HT2 : Hid (TD ((wr.alloc (.cells #[.int .i64 (j : Int), .string ⟨tx.toArray⟩] 60)).setCell ⟨w.heap.size + 1, j, none⟩ (.string ⟨tx.toArray⟩)) (w.heap.size + 1) (bldF (L.take (i + 1)))) := Lib.hid (by rw [HSn.out]; exact hT2)
      have HB2 : Hid (ButS (fun g => g = w.heap.size + 1) w4 ((wr.alloc (.cells #[.int .i64 (j : Int), .string ⟨tx.toArray⟩] 60)).setCell ⟨w.heap.size + 1, j, none⟩ (.string ⟨tx.toArray⟩))) := Lib.hid ((HBu.out.alloc _).setCell (.inl rfl) _)
      clear hcL q0 q1 hx hri hba hT1 hT2 hrb hrc HTx HSn
      go_wp2_with fail
      go_roundw
      case rel => exact ⟨i + 1, by omega, by go_num, HT2, HB2⟩
      case measure => simp [RowKit.intOf]; omega
    · have hii : i = L.length := by omega
      subst hii
      have hT := HTx.out
      rw [List.take_length] at hT
      have HT := Lib.hid hT
      have hR : TD wr w.heap.size (fun _ => []) := HRs4.out.world (HBu.out.block _ HRs4.out.lt (fun e => by have e : w.heap.size = w.heap.size + 1 := e; omega))
      have HR := Lib.hid hR
      have hbw : Below w.heap.size w wr := Hbw4.out.trans (HBu.out.below (n := w.heap.size) (fun k hk e => by have e : k = w.heap.size + 1 := e; omega) (by omega))
      have HBw := Lib.hid hbw
      clear hT hR hbw HTx HRs4 HTx4 HBu HRow
      obtain ⟨f, hf⟩ : ∃ f, bldF L = f := ⟨_, rfl⟩
      have HFe := Lib.hid hf.symm
      rw [hf] at HT
      clear hf
      have HIc := Lib.hid (fun (w1 : World) (hb : Below wr.heap.size wr w1) => HIs.out w1 (HBw.out.trans (hb.mono HBw.out.size)))
      have HPo2 := Lib.hid (fun (w' : World) (hb : Below w.heap.size w w') => HPost.out f w' HFe.out hb)
      clear HIs HRt HPost HFe
      have hz9 : w.heap.size + 1 < wr.heap.size := HT.out.lt
      generalize hNN : L.length = N at *
      cases hN : decide ((0 : Int) < (N : Int)) with
      | true =>
        have hB : bS = true := HPo.out (by have := of_decide_eq_true hN; omega)
        subst hB
        have hNp : 0 < N := by have := of_decide_eq_true hN; omega
        clear HIc HPo hNN
        go_wp2_with fail
        refine wp_region_any (by kernel_rfl) ?_
        try (change wpAny _ _ _ _ _ _ _ (World.drew _))
        refine wpAny_take (i := 1) (v := ?_) rfl (by kernel_rfl) (by kernel_rfl) (by kernel_rfl) (fun _ _ _ h => h) (Or.inl ⟨by rfl, ?_⟩) ?_
        rotate_left
        · intro w; go_simp
          try (first | (with_reducible rfl) | omega | (have hq := HNp.out; omega))
        (try go_simp)
        refine wpAny_take (i := 2) (v := ?_) rfl (by kernel_rfl) (by kernel_rfl) (by kernel_rfl) (fun _ _ _ h => h) (Or.inl ⟨by rfl, ?_⟩) ?_
        rotate_left
        · intro w; go_simp
          try (first | (with_reducible rfl) | omega | (have hq := HNp.out; omega))
        (try go_simp)
        refine wpAny_take (i := 3) (v := .bool true) rfl (by kernel_rfl) (by kernel_rfl) (by kernel_rfl) (fun _ _ _ h => h) (Or.inl ⟨by rfl, ?_⟩) ?_
        skip
        · intro w; go_simp
          try (first | (with_reducible rfl) | omega | (have hq := HNp.out; omega))
        (try go_simp)
        refine wpAny_take (i := 4) (v := .bool true) rfl (by kernel_rfl) (by kernel_rfl) (by kernel_rfl) (fun _ _ _ h => h) (Or.inl ⟨by rfl, ?_⟩) ?_
        skip
        · intro w; go_simp
          try (first | (with_reducible rfl) | omega | (have hq := HNp.out; omega))
        (try go_simp)
        refine wpAny_take (i := 5) (v := undef) rfl (by kernel_rfl) (by kernel_rfl) (by kernel_rfl) (fun _ _ _ h => h) (Or.inr ⟨by rfl, by rfl⟩) ?_
        (try go_simp)
        refine wpAny_take (i := 6) (v := undef) rfl (by kernel_rfl) (by kernel_rfl) (by kernel_rfl) (fun _ _ _ h => h) (Or.inr ⟨by rfl, by rfl⟩) ?_
        (try go_simp)
        refine wpAny_take (i := 7) (v := undef) rfl (by kernel_rfl) (by kernel_rfl) (by kernel_rfl) (fun _ _ _ h => h) (Or.inr ⟨by rfl, by rfl⟩) ?_
        (try go_simp)
        refine wpAny_take (i := 8) (v := .bool true) rfl (by kernel_rfl) (by kernel_rfl) (by kernel_rfl) (fun _ _ _ h => h) (Or.inl ⟨by rfl, ?_⟩) ?_
        skip
        · intro w; go_simp
          try (first | (with_reducible rfl) | omega | (have hq := HNp.out; omega))
        (try go_simp)
        refine wpAny_ready (rs := [0]) (by kernel_rfl) (by simp) ?_
        refine AllReady.cons rfl (fun K hK => ?_) ?_
        · refine step_load_dtx (by rfl) _ (by rfl) (w.heap.size + 1) (by rfl) (f := f) (HT.out.below ((Below.refl _ _).drew)) ?_
          (try go_simp)
          try (refine hK _ _ ?_; clear hK K)
          refine wpAny_ready (rs := [9]) (by kernel_rfl) (by simp) ?_
          refine AllReady.cons rfl (fun K hK => ?_) ?_
          · refine step_store_dtx (by rfl) _ _ (by rfl) w.heap.size (by rfl) (f := f) (f0 := fun _ => []) (by rfl) (HR.out.below ((Below.refl _ _).drew)) ?_
            (try go_simp)
            try (refine hK _ _ ?_; clear hK K)
            refine wpAny_ready (rs := [10]) (by kernel_rfl) (by simp) ?_
            refine AllReady.cons rfl (fun K hK => ?_) ?_
            · go_simp
              (try go_simp)
              try (refine hK _ _ ?_; clear hK K)
              refine wpAny_done (by kernel_rfl) ?_ _
              go_wp2_with fail
              exact bodyPost_ret (v := .tuple #[.agg (txC f), .bool true]) (dresults_two (p := 4) (q := 5) (by kernel_rfl) _ _ w.heap.size rfl (heap_setRow_self (HR.out.below ((Below.refl _ _).drew)) _)) rfl (HPo2.out _ (below_setRow' (HBw.out.trans (Below.mono ((Below.refl _ _).drew) HBw.out.size)) (Nat.le_refl _) _))
            exact AllReady.nil
          exact AllReady.nil
        exact AllReady.nil
      | false =>
        have hNp : N = 0 := by have := of_decide_eq_false hN; omega
        have HNp := Lib.hid hNp
        clear HPo hNN hNp
        go_wp2_with fail
        refine wp_region_any (by kernel_rfl) ?_
        try (change wpAny _ _ _ _ _ _ _ (World.drew _))
        refine wpAny_take (i := 1) (v := ?_) rfl (by kernel_rfl) (by kernel_rfl) (by kernel_rfl) (fun _ _ _ h => h) (Or.inl ⟨by rfl, ?_⟩) ?_
        rotate_left
        · intro w; go_simp
          try (first | (with_reducible rfl) | omega | (have hq := HNp.out; omega))
        (try go_simp)
        refine wpAny_take (i := 2) (v := ?_) rfl (by kernel_rfl) (by kernel_rfl) (by kernel_rfl) (fun _ _ _ h => h) (Or.inl ⟨by rfl, ?_⟩) ?_
        rotate_left
        · intro w; go_simp
          try (first | (with_reducible rfl) | omega | (have hq := HNp.out; omega))
        (try go_simp)
        refine wpAny_take (i := 3) (v := .bool false) rfl (by kernel_rfl) (by kernel_rfl) (by kernel_rfl) (fun _ _ _ h => h) (Or.inl ⟨by rfl, ?_⟩) ?_
        skip
        · intro w; go_simp
          try (first | (with_reducible rfl) | omega | (have hq := HNp.out; omega))
        (try go_simp)
        refine wpAny_take (i := 4) (v := .bool false) rfl (by kernel_rfl) (by kernel_rfl) (by kernel_rfl) (fun _ _ _ h => h) (Or.inl ⟨by rfl, ?_⟩) ?_
        skip
        · intro w; go_simp
          try (first | (with_reducible rfl) | omega | (have hq := HNp.out; omega))
        (try go_simp)
        refine wpAny_take (i := 5) (v := ?_) rfl (by kernel_rfl) (by kernel_rfl) (by kernel_rfl) (fun _ _ _ h => h) (Or.inl ⟨by rfl, ?_⟩) ?_
        rotate_left
        · intro w; go_simp
          try (first | (with_reducible rfl) | omega | (have hq := HNp.out; omega))
        (try go_simp)
        refine wpAny_take (i := 6) (v := ?_) rfl (by kernel_rfl) (by kernel_rfl) (by kernel_rfl) (fun _ _ _ h => h) (Or.inl ⟨by rfl, ?_⟩) ?_
        rotate_left
        · intro w; go_simp
          try (first | (with_reducible rfl) | omega | (have hq := HNp.out; omega))
        (try go_simp)
        refine wpAny_ready (rs := [0, 7]) (by kernel_rfl) (by simp) ?_
        refine AllReady.cons rfl (fun K hK => ?_) ?_
        · refine step_load_dtx (by rfl) _ (by rfl) (w.heap.size + 1) (by rfl) (f := f) (HT.out.below ((Below.refl _ _).drew)) ?_
          (try go_simp)
          try (refine hK _ _ ?_; clear hK K)
          refine wpAny_ready (rs := [7]) (by kernel_rfl) (by simp) ?_
          refine AllReady.cons rfl (fun K hK => ?_) ?_
          · (go_simp; go_at_call 34)
            refine (HIc.out _ (Below.refl _ _).drew).mono ?_; rintro e w3 ⟨rfl, hb3'⟩
            have hb3 : Below wr.heap.size wr w3 := (Below.refl wr.heap.size wr).drew.trans hb3'
            (try go_simp)
            try (refine hK _ _ ?_; clear hK K)
            refine wpAny_ready (rs := [8, 9]) (by kernel_rfl) (by simp) ?_
            refine AllReady.cons rfl (fun K hK => ?_) ?_
            · go_simp
              (try go_simp)
              try (refine hK _ _ ?_; clear hK K)
              refine wpAny_ready (rs := [9]) (by kernel_rfl) (by simp) ?_
              refine AllReady.cons rfl (fun K hK => ?_) ?_
              · refine step_store_dtx (by rfl) _ _ (by rfl) w.heap.size (by rfl) (f := f) (f0 := fun _ => []) (by rfl) (HR.out.below (hb3)) ?_
                (try go_simp)
                try (refine hK _ _ ?_; clear hK K)
                refine wpAny_ready (rs := [10]) (by kernel_rfl) (by simp) ?_
                refine AllReady.cons rfl (fun K hK => ?_) ?_
                · go_simp
                  (try go_simp)
                  try (refine hK _ _ ?_; clear hK K)
                  refine wpAny_done (by kernel_rfl) ?_ _
                  go_wp2_with fail
                  exact bodyPost_ret (v := .tuple #[.agg (txC f), .bool bS]) (dresults_two (p := 4) (q := 5) (by kernel_rfl) _ _ w.heap.size rfl (heap_setRow_self (HR.out.below (hb3)) _)) rfl (HPo2.out _ (below_setRow' (HBw.out.trans (Below.mono (hb3) HBw.out.size)) (Nat.le_refl _) _))
                exact AllReady.nil
              exact AllReady.nil
            refine AllReady.cons rfl (fun K hK => ?_) ?_
            · refine step_store_dtx (by rfl) _ _ (by rfl) w.heap.size (by rfl) (f := f) (f0 := fun _ => []) (by rfl) (HR.out.below (hb3)) ?_
              (try go_simp)
              try (refine hK _ _ ?_; clear hK K)
              refine wpAny_ready (rs := [8]) (by kernel_rfl) (by simp) ?_
              refine AllReady.cons rfl (fun K hK => ?_) ?_
              · go_simp
                (try go_simp)
                try (refine hK _ _ ?_; clear hK K)
                refine wpAny_ready (rs := [10]) (by kernel_rfl) (by simp) ?_
                refine AllReady.cons rfl (fun K hK => ?_) ?_
                · go_simp
                  (try go_simp)
                  try (refine hK _ _ ?_; clear hK K)
                  refine wpAny_done (by kernel_rfl) ?_ _
                  go_wp2_with fail
                  exact bodyPost_ret (v := .tuple #[.agg (txC f), .bool bS]) (dresults_two (p := 4) (q := 5) (by kernel_rfl) _ _ w.heap.size rfl (heap_setRow_self (HR.out.below (hb3)) _)) rfl (HPo2.out _ (below_setRow' (HBw.out.trans (Below.mono (hb3) HBw.out.size)) (Nat.le_refl _) _))
                exact AllReady.nil
              exact AllReady.nil
            exact AllReady.nil
          exact AllReady.nil
        refine AllReady.cons rfl (fun K hK => ?_) ?_
        · (go_simp; go_at_call 34)
          refine (HIc.out _ (Below.refl _ _).drew).mono ?_; rintro e w3 ⟨rfl, hb3'⟩
          have hb3 : Below wr.heap.size wr w3 := (Below.refl wr.heap.size wr).drew.trans hb3'
          (try go_simp)
          try (refine hK _ _ ?_; clear hK K)
          refine wpAny_ready (rs := [0, 8]) (by kernel_rfl) (by simp) ?_
          refine AllReady.cons rfl (fun K hK => ?_) ?_
          · refine step_load_dtx (by rfl) _ (by rfl) (w.heap.size + 1) (by rfl) (f := f) (HT.out.below (hb3)) ?_
            (try go_simp)
            try (refine hK _ _ ?_; clear hK K)
            refine wpAny_ready (rs := [8, 9]) (by kernel_rfl) (by simp) ?_
            refine AllReady.cons rfl (fun K hK => ?_) ?_
            · go_simp
              (try go_simp)
              try (refine hK _ _ ?_; clear hK K)
              refine wpAny_ready (rs := [9]) (by kernel_rfl) (by simp) ?_
              refine AllReady.cons rfl (fun K hK => ?_) ?_
              · refine step_store_dtx (by rfl) _ _ (by rfl) w.heap.size (by rfl) (f := f) (f0 := fun _ => []) (by rfl) (HR.out.below (hb3)) ?_
                (try go_simp)
                try (refine hK _ _ ?_; clear hK K)
                refine wpAny_ready (rs := [10]) (by kernel_rfl) (by simp) ?_
                refine AllReady.cons rfl (fun K hK => ?_) ?_
                · go_simp
                  (try go_simp)
                  try (refine hK _ _ ?_; clear hK K)
                  refine wpAny_done (by kernel_rfl) ?_ _
                  go_wp2_with fail
                  exact bodyPost_ret (v := .tuple #[.agg (txC f), .bool bS]) (dresults_two (p := 4) (q := 5) (by kernel_rfl) _ _ w.heap.size rfl (heap_setRow_self (HR.out.below (hb3)) _)) rfl (HPo2.out _ (below_setRow' (HBw.out.trans (Below.mono (hb3) HBw.out.size)) (Nat.le_refl _) _))
                exact AllReady.nil
              exact AllReady.nil
            refine AllReady.cons rfl (fun K hK => ?_) ?_
            · refine step_store_dtx (by rfl) _ _ (by rfl) w.heap.size (by rfl) (f := f) (f0 := fun _ => []) (by rfl) (HR.out.below (hb3)) ?_
              (try go_simp)
              try (refine hK _ _ ?_; clear hK K)
              refine wpAny_ready (rs := [8]) (by kernel_rfl) (by simp) ?_
              refine AllReady.cons rfl (fun K hK => ?_) ?_
              · go_simp
                (try go_simp)
                try (refine hK _ _ ?_; clear hK K)
                refine wpAny_ready (rs := [10]) (by kernel_rfl) (by simp) ?_
                refine AllReady.cons rfl (fun K hK => ?_) ?_
                · go_simp
                  (try go_simp)
                  try (refine hK _ _ ?_; clear hK K)
                  refine wpAny_done (by kernel_rfl) ?_ _
                  go_wp2_with fail
                  exact bodyPost_ret (v := .tuple #[.agg (txC f), .bool bS]) (dresults_two (p := 4) (q := 5) (by kernel_rfl) _ _ w.heap.size rfl (heap_setRow_self (HR.out.below (hb3)) _)) rfl (HPo2.out _ (below_setRow' (HBw.out.trans (Below.mono (hb3) HBw.out.size)) (Nat.le_refl _) _))
                exact AllReady.nil
              exact AllReady.nil
            exact AllReady.nil
          refine AllReady.cons rfl (fun K hK => ?_) ?_
          · go_simp
            (try go_simp)
            try (refine hK _ _ ?_; clear hK K)
            refine wpAny_ready (rs := [0]) (by kernel_rfl) (by simp) ?_
            refine AllReady.cons rfl (fun K hK => ?_) ?_
            · refine step_load_dtx (by rfl) _ (by rfl) (w.heap.size + 1) (by rfl) (f := f) (HT.out.below (hb3)) ?_
              (try go_simp)
              try (refine hK _ _ ?_; clear hK K)
              refine wpAny_ready (rs := [9]) (by kernel_rfl) (by simp) ?_
              refine AllReady.cons rfl (fun K hK => ?_) ?_
              · refine step_store_dtx (by rfl) _ _ (by rfl) w.heap.size (by rfl) (f := f) (f0 := fun _ => []) (by rfl) (HR.out.below (hb3)) ?_
                (try go_simp)
                try (refine hK _ _ ?_; clear hK K)
                refine wpAny_ready (rs := [10]) (by kernel_rfl) (by simp) ?_
                refine AllReady.cons rfl (fun K hK => ?_) ?_
                · go_simp
                  (try go_simp)
                  try (refine hK _ _ ?_; clear hK K)
                  refine wpAny_done (by kernel_rfl) ?_ _
                  go_wp2_with fail
                  exact bodyPost_ret (v := .tuple #[.agg (txC f), .bool bS]) (dresults_two (p := 4) (q := 5) (by kernel_rfl) _ _ w.heap.size rfl (heap_setRow_self (HR.out.below (hb3)) _)) rfl (HPo2.out _ (below_setRow' (HBw.out.trans (Below.mono (hb3) HBw.out.size)) (Nat.le_refl _) _))
                exact AllReady.nil
              exact AllReady.nil
            exact AllReady.nil
          exact AllReady.nil
        exact AllReady.nil
theorem pdread_any {w : World} {B a room : Nat} {s : Sh} {K : Nat → Prop} (hA : On9 w B a room s K) (h : Int) (hh : -9223372036854775808 ≤ h ∧ h ≤ 9223372036854775807) :
    Calls Tryz.prog 32 #[.pointer (some ⟨a, 0, none⟩), .int .i64 h] w fun e w' => ReadQ s h w e w' :=
  (pdread_of (.pointer (some ⟨a, 0, none⟩)) h ((hasT s h).getD []) (hasT s h).isSome (fun w1 hb => pall_any (hA.below hb) h hh) (fun w1 hb => pis_any (hA.below hb) h hh) (has_right s h) (has_pos s h) (has_len s h)).mono fun e w' ⟨f, he, hf, hb⟩ =>
    ⟨f, _, he, by rw [hf]; exact bldF_ok (has_right s h), by rw [hf]; exact has_self s h, hb⟩
end Go.Proofs.YtjgjacihdggimaaGreatDoor
namespace Go.Proofs.YtjgjacihdggimaaGreatDoor
open Go.RowKit
theorem nl_alz (w : World) (o : Obj) : w.heap.size ≤ (w.alloc o).heap.size := by simp
theorem pch_info : (Tryz.prog.info? 57).map (fun i => (i.zero, i.size, i.bytes)) = some (some (.agg #[.int .i64 0, .string ⟨#[]⟩, .string ⟨#[]⟩]), 3, 40) := by kernel_rfl
set_option maxHeartbeats 8000000 in
set_option maxRecDepth 10000 in
theorem pdturn_any (l : List Ch) (A : Option Addr) (ca : Nat) (w : World) {Q : Nat → Prop} (hl : RowC w Q A l) (hll : l.length ≤ 1000000) :
    Calls Tryz.prog 22 #[.slice A l.length ca] w fun e w' => ∃ O co, e = .returned (.slice O l.length co) ∧ l.length ≤ co ∧ RowC w' (fun g => w.heap.size ≤ g) O (l.map turnC) ∧ Below w.heap.size w w' := by
  obtain ⟨i0, hi0, hz0, hz1, hz2⟩ := info_parts pch_info
  have HL := Lib.hid hl
  obtain ⟨lm, hlm⟩ : ∃ lm, l.map turnC = lm := ⟨_, rfl⟩
  have hml : lm.length = l.length := by rw [← hlm, List.length_map]
  have HLM := Lib.hid hlm
  have HML := Lib.hid hml
  rw [hlm]
  clear hl hlm hml
  go_enter Tryz.func22, Tryz.ntmps22
  go_wp2_with fail
  go_loopw [3, 8] (fun v vi wr => ∃ (i : Nat), i ≤ l.length ∧ vi = .int .i64 (i : Int) ∧ Hid (OwnR 57 3 chW w.heap.size wr v (lm.take i)) ∧ Below w.heap.size w wr) (fun _ vi _ => l.length - (RowKit.intOf vi).toNat)
  case atStart => exact ⟨0, Nat.zero_le _, rfl, Lib.hid (by rw [List.take_zero]; exact World.ownsRow_nil _ _ _ _), Below.refl _ _⟩
  case round =>
    obtain ⟨i, hi, rfl, HO, hb⟩ := hrel
    by_cases hlt : i < l.length
    · obtain ⟨x, hx⟩ : ∃ x, l[i]? = some x := ⟨_, List.getElem?_eq_getElem hlt⟩
      obtain ⟨g, o, rfl, _, hgl, hat⟩ := HL.out.at hlt
      obtain ⟨q0, q1, q2⟩ := hat.three hx
      have k0 := keep_cell hb q0
      have k1 := keep_cell hb q1
      have k2 := keep_cell hb q2
      have hI : (i : Int) < (l.length : Int) := by omega
      have hbs := hb.size
      have hlx : lm[i]? = some (turnC x) := by rw [← HLM.out, List.getElem?_map, hx]; rfl
      have hsp : lm.take (i + 1) = lm.take i ++ [turnC x] := by rw [List.take_add_one, hlx]; rfl
      have HE := Lib.hid hsp
      have hlen : (lm.take i).length = i := by rw [List.length_take, HML.out]; omega
      have HLn := Lib.hid hlen
      obtain ⟨kx, tx, ux⟩ := x
      have HE : Hid (lm.take (i + 1) = lm.take i ++ [(⟨kx, ux, tx⟩ : Ch)]) := HE
      clear hat q0 q1 q2 hx hsp hlen hlx
      have HB := Lib.hid hb
      have b0 : Below w.heap.size wr ((wr.alloc (.cells #[.int .i64 kx, .string ⟨tx.toArray⟩, .string ⟨ux.toArray⟩] 57)).alloc (.cells (chW ⟨kx, ux, tx⟩).toArray 57)) := ((Below.refl _ _).alloc hbs _).alloc (by simp; omega) _
      have HB0 := Lib.hid b0
      clear b0
      go_wp2_with (at_builtin; refine of_stop ?_)
      refine stop_of ?_
      refine wpList_append_rows (f := chW) (n := 3) (E := 57) (nb := 40) (X := lm.take i) (base := w.heap.size) rfl _ _ rfl rfl (OwnR.below HO.out (by with_reducible repeat' (first | exact Below.refl _ _ | exact Nat.le_refl _ | exact nl_alz _ _ | refine Below.drew ?_ | refine Below.alloc ?_ ?_ _))) (L2 := [(⟨kx, ux, tx⟩ : Ch)]) rfl (by have h := one_row (f := chW) (n := 3) (E := 57) (wr.alloc (.cells #[.int .i64 kx, .string ⟨tx.toArray⟩, .string ⟨ux.toArray⟩] 57)) (⟨kx, ux, tx⟩ : Ch); rw [show (wr.alloc (.cells #[.int .i64 kx, .string ⟨tx.toArray⟩, .string ⟨ux.toArray⟩] 57)).heap.size = wr.heap.size + 1 by simp] at h; exact h) (by simp) (N := i + 1) (by rw [HLn.out]; rfl) (Z := lm.take (i + 1)) HE.out.symm Tryz.underlying23 hi0 hz0 hz1 hz2 rfl (by decide) (by decide) (fun _ => rfl) chW_one (by first | omega | (simp; omega)) (by first | omega | (simp; done) | (simp; omega)) ?_
      intro g4 k4 w4 ho4 hg4 hat4 hl4
      have hb4 : Below w.heap.size w w4 := HB.out.trans (Below.grown HB0.out hg4 (by first | omega | (simp; omega)) (fun k hk => (World.ownsRow.lt HO.out k hk).1))
      have HO4 := Lib.hid ho4
      clear ho4 hg4 hat4 hl4 hb
      go_wp2_with fail
      go_roundw
      case rel => exact ⟨i + 1, by omega, by go_num, HO4, hb4⟩
      case measure => simp [RowKit.intOf]; omega
    · have hii : i = l.length := by omega
      subst hii
      have hO := HO.out
      rw [← HML.out, List.take_length] at hO
      obtain ⟨O, co, hv, hc, hr⟩ := own_rowC hO
      rw [HML.out] at hv hc
      subst hv
      have HR := Lib.hid hr
      clear hr hO
      go_wp2_with fail
      go_ret
      exact ⟨O, co, rfl, hc, HR.out, hb⟩
end Go.Proofs.YtjgjacihdggimaaGreatDoor
namespace Go.Proofs.YtjgjacihdggimaaGreatDoor
open Go.RowKit Go.Shelf
theorem hold_dt : (Tryz.zeroCells80).size = 1024 := by rw [dtx_zero, txC_size]
theorem chN_len1 (l m : List En) (i : Nat) (hi : i ≤ 1024) : (chN l m i).length ≤ 1024 := Nat.le_trans (chN_len i) hi
set_option maxHeartbeats 16000000 in
set_option maxRecDepth 10000 in
theorem pdOf_any (N : Nat) (hN : N = 1024) {w : World} {B a room : Nat} {s : Sh} {K : Nat → Prop} (hA : On9 w B a room s K) (x y : Int) (hx : -9223372036854775808 ≤ x ∧ x ≤ 9223372036854775807) (hy : -9223372036854775808 ≤ y ∧ y ≤ 9223372036854775807) :
    Calls Tryz.prog 11 #[.pointer (some ⟨a, 0, none⟩), .int .i64 x, .int .i64 y] w fun e w' => DofP w (ofR N (hasT s x) (hasT s y)) e w' := by
  obtain ⟨i0, hi0, hz0, hz1, hz2⟩ := info_parts pch_info
  have HX := Lib.hid (pdread_any hA x hx)
  have HY := Lib.hid (fun (w1 : World) (hb : Below w.heap.size w w1) => pdread_any (hA.below hb) y hy)
  have HNo := Lib.hid (fun e => ofR_none (N := N) (r := hasT s x) (q := hasT s y) e)
  have HYes : Hid (∀ l m, hasT s x = some l → hasT s y = some m → ofR N (hasT s x) (hasT s y) = (chN l m N, 0)) := Lib.hid fun l m h1 h2 => by rw [h1, h2]; rfl
  clear hA
  unfold ReadQ at HX HY
  generalize hasT s x = rx at *
  generalize hasT s y = ry at *
  generalize ofR N rx ry = RR at *
  go_enter Tryz.func11, Tryz.ntmps11
  go_wp2_with fail
  refine HX.out.mono ?_; rintro e w1 ⟨f, b, rfl, hok, hhas, hb1⟩
  have HOf := Lib.hid hok
  have HHf := Lib.hid hhas
  have hba : Below w.heap.size w (w1.alloc (.cells (txC f) 80)) := hb1.alloc hb1.size _
  have hTf : TD (w1.alloc (.cells (txC f) 80)) w1.heap.size f := heap_alloc_new w1 _
  have HBa := Lib.hid hba
  have HTf := Lib.hid hTf
  have HYc := Lib.hid (HY.out _ hba)
  clear hok hhas hb1 hba hTf HX HY
  go_wp2_with (refine wpList_store_row rfl 80 _ _ rfl w1.heap.size (txC f) rfl rfl 80 _ (heap_alloc_new w1 _) (by rw [txC_size]; exact dtx_info) (by rw [txC_size]; first | exact hold_dt | rfl) (txC_one f) ?_; rw [World.setRow_alloc_new])
  refine HYc.out.mono ?_; rintro e w2 ⟨g, c, rfl, hok2, hhas2, hb2⟩
  have HOg := Lib.hid hok2
  have HHg := Lib.hid hhas2
  have hsz12 := hb2.size
  have hbb := HBa.out.trans (hb2.mono HBa.out.size)
  have hbc : Below w.heap.size w (w2.alloc (.cells (txC g) 80)) := hbb.alloc hbb.size _
  have hTg : TD (w2.alloc (.cells (txC g) 80)) w2.heap.size g := heap_alloc_new w2 _
  have hTf2 : TD (w2.alloc (.cells (txC g) 80)) w1.heap.size f := (HTf.out.below hb2).below ((Below.refl _ _).alloc (Nat.le_refl _) _)
  have HBc := Lib.hid hbc
  have HTg := Lib.hid hTg
  have HTf2 := Lib.hid hTf2
  clear hok2 hhas2 hb2 hbb hbc hTg hTf2 HYc HTf HBa hsz12
  cases b with
  | false =>
    have HE := Lib.hid (HNo.out (.inl (HHf.out.trans (if_neg (by decide)))))
    clear HNo HYes
    go_wp2_with (refine wpList_store_row rfl 80 _ _ rfl w2.heap.size (txC g) rfl rfl 80 _ (heap_alloc_new w2 _) (by rw [txC_size]; exact dtx_info) (by rw [txC_size]; first | exact hold_dt | rfl) (txC_one g) ?_; rw [World.setRow_alloc_new])
    go_ret2
    exact DofP.not HBc.out HE.out
  | true =>
    cases c with
    | false =>
      have HE := Lib.hid (HNo.out (.inr (HHg.out.trans (if_neg (by decide)))))
      clear HNo HYes
      go_wp2_with (refine wpList_store_row rfl 80 _ _ rfl w2.heap.size (txC g) rfl rfl 80 _ (heap_alloc_new w2 _) (by rw [txC_size]; exact dtx_info) (by rw [txC_size]; first | exact hold_dt | rfl) (txC_one g) ?_; rw [World.setRow_alloc_new])
      go_ret2
      exact DofP.not HBc.out HE.out
    | true =>
      have HE := Lib.hid (HYes.out _ _ (HHf.out.trans (if_pos rfl)) (HHg.out.trans (if_pos rfl)))
      have HNx := Lib.hid (fun (i : Nat) (hi : i < 1024) h => chN_fn_no HOf.out HOg.out hi h)
      have HYx := Lib.hid (fun (i : Nat) (hi : i < 1024) h => chN_fn_yes HOf.out HOg.out hi h)
      clear HNo HYes HHf HHg HOf HOg
      generalize entX f 1024 = L1 at *
      generalize entX g 1024 = L2 at *
      have hB1 : w1.heap.size < (w2.alloc (.cells (txC g) 80)).heap.size := HTf2.out.lt
      have hB2 : w2.heap.size < (w2.alloc (.cells (txC g) 80)).heap.size := HTg.out.lt
      go_wp2_with (refine wpList_store_row rfl 80 _ _ rfl w2.heap.size (txC g) rfl rfl 80 _ (heap_alloc_new w2 _) (by rw [txC_size]; exact dtx_info) (by rw [txC_size]; first | exact hold_dt | rfl) (txC_one g) ?_; rw [World.setRow_alloc_new])
      generalize w2.alloc (.cells (txC g) 80) = W4 at *
      generalize w2.heap.size = B2 at *
      generalize w1.heap.size = B1 at *
      go_loopw [12, 32] (fun v vi wr => ∃ (i : Nat), i ≤ 1024 ∧ vi = .int .i64 (i : Int) ∧ Hid (OwnR 57 3 chW W4.heap.size wr v (chN L1 L2 i)) ∧ Hid (Below W4.heap.size W4 wr)) (fun _ vi _ => 1024 - (RowKit.intOf vi).toNat)
      case atStart => exact ⟨0, Nat.zero_le _, rfl, Lib.hid (World.ownsRow_nil _ _ _ _), Lib.hid (Below.refl _ _)⟩
      case round =>
        obtain ⟨i, hi, rfl, HO, HB⟩ := hrel
        have hbs := HB.out.size
        by_cases hlt : i < 1024
        · have q1 := (HTf2.out.below HB.out).cell hlt
          have q2 := (HTg.out.below HB.out).cell hlt
          have z1 : B1 < wr.heap.size := by omega
          have z2 : B2 < wr.heap.size := by omega
          have hI : (i : Int) < 1024 := by omega
          have hJ : (0 : Int) ≤ (i : Int) := by omega
          have hcl := chN_len1 L1 L2 i (by omega)
          have HNx2 := Lib.hid (HNx.out i hlt)
          have HYx2 := Lib.hid (HYx.out i hlt)
          generalize f i = S at *
          generalize g i = T at *
          by_cases hST : S = T
          · subst hST
            have hE := HNx2.out rfl
            rw [← hE] at HO
            clear HNx2 HYx2 hE
            go_wp2_with fail
            go_quiet (fail)
            go_wp2_with fail
            go_roundw
            case rel => exact ⟨i + 1, by omega, by go_num, Lib.hid (OwnR.below HO.out (by first | exact below_drewN (Below.refl _ _) _ | exact Below.refl _ _)), Lib.hid (by first | exact below_drewN HB.out _ | exact HB.out)⟩
            case measure => simp [RowKit.intOf]; omega
          · have d0 : (!S == T) = true := by simpa using hST
            have hE := HYx2.out hST
            have HE3 := Lib.hid hE
            obtain ⟨M, hM⟩ : ∃ M, (chN L1 L2 i).length = M := ⟨_, rfl⟩
            have HM := Lib.hid hM
            rw [hM] at hcl
            have HMz : Hid ((chN L1 L2 (i + 1)).length = M + 1) := Lib.hid (by rw [hE, List.length_append, hM]; rfl)
            clear HNx2 HYx2 hE hM hST
            obtain ⟨C0, hC0⟩ : ∃ C0, chN L1 L2 i = C0 := ⟨_, rfl⟩
            obtain ⟨C1, hC1⟩ : ∃ C1, chN L1 L2 (i + 1) = C1 := ⟨_, rfl⟩
            rw [hC0] at HE3 HM HO
            rw [hC1] at HE3 HMz
            have HC1 := Lib.hid hC1
            clear hC0 hC1
            go_wp2_with fail
            go_quiet (fail)
            go_wp2_with fail
            go_region_law (first
              | (refine step_append_rows (f := chW) (n := 3) (E := 57) (nb := 40) (X := C0) (base := W4.heap.size) (by rfl) _ _ (by rfl) (by rfl) (OwnR.below HO.out (by with_reducible repeat' (first | exact Below.refl _ _ | exact Nat.le_refl _ | refine Below.drew ?_ | refine below_drewN ?_ _ | refine Below.alloc ?_ ?_ _ | (simp; done) | (simp; omega)))) (L2 := [(⟨(i : Int), S, T⟩ : Ch)]) (by rfl) (by first | exact one_row _ (⟨(i : Int), S, T⟩ : Ch) | exact one_row _ _) (by simp) (N := M + 1) (by rw [HM.out]; rfl) (Z := C1) HE3.out.symm Tryz.underlying23 hi0 hz0 hz1 hz2 (by rfl) (by decide) (by decide) (fun _ => rfl) chW_one (by first | omega | (simp; omega)) (by first | omega | (simp; done) | (simp; omega)) ?_; intro g4 k4 w4 ho4 hg4 hat4 hl4
                 have hb4 : Below W4.heap.size W4 w4 := HB.out.trans (Below.grown (by with_reducible repeat' (first | exact Below.refl _ _ | exact Nat.le_refl _ | exact hbs | refine Below.drew ?_ | refine below_drewN ?_ _ | refine Below.alloc ?_ ?_ _ | (simp; done) | (simp; omega))) hg4 (by first | omega | (simp; done) | (simp; omega)) (fun k hk => (World.ownsRow.lt HO.out k hk).1))
                 have HO4 := Lib.hid ho4
                 have HB4 := Lib.hid hb4
                 clear ho4 hg4 hat4 hl4 hb4)
              | fail)
            all_goals
              rw [← HC1.out] at HO4
              go_wp2_with fail
              go_roundw
              case rel => exact ⟨i + 1, by omega, by go_num, HO4, HB4⟩
              case measure => simp [RowKit.intOf]; omega
        · have hii : i = N := by omega
          subst hii
          obtain ⟨O, co, hv, hc, hr⟩ := own_rowC HO.out
          subst hv
          have hr2 := hr.mono (Q := fun g => w.heap.size ≤ g) fun g hg _ => Nat.le_trans HBc.out.size hg
          have HR := Lib.hid hr2
          have HBz := Lib.hid (HBc.out.trans (HB.out.mono HBc.out.size))
          clear hr hr2
          generalize chN L1 L2 i = CC at *
          go_wp2_with fail
          go_ret2
          rw [HE.out]
          exact ⟨O, co, rfl, hc, HR.out, HBz.out⟩
end Go.Proofs.YtjgjacihdggimaaGreatDoor
namespace Go.Proofs.YtjgjacihdggimaaGreatDoor
open Go.RowKit
set_option maxHeartbeats 4000000 in
set_option maxRecDepth 10000 in
theorem pdwrong_any (c : Ch) (w : World) (hl : c.fr.length ≤ maxLen) (hm : c.tt.length ≤ maxLen) : Calls Tryz.prog 39 #[.agg #[.int .i64 c.key, .string ⟨c.fr.toArray⟩, .string ⟨c.tt.toArray⟩]] w fun e w' => e = .returned (.bool (!okC c)) ∧ Below w.heap.size w w' := by
  obtain ⟨k, s, t⟩ := c
  have hba : Below w.heap.size w (w.alloc (.cells #[.int .i64 k, .string ⟨s.toArray⟩, .string ⟨t.toArray⟩] 57)) := (Below.refl _ _).alloc (Nat.le_refl _) _
  have HB := Lib.hid hba
  clear hba
  have hl : s.length ≤ maxLen := hl
  have hm : t.length ≤ maxLen := hm
  have HH := Lib.hid (fun w => phash_any k w)
  have HR : Hid ((!okC ⟨k, s, t⟩) = (decide (hashK k < 0) || (decide (200 < (s.length : Int)) || (decide (200 < (t.length : Int)) || decide (s = t))))) := Lib.hid (by
    rw [hash_neg]
    unfold okC
    show (!(decide (0 ≤ k) && (decide (k ≤ 1023) && (decide (s.length ≤ 200) && (decide (t.length ≤ 200) && !decide (s = t)))))) = _
    rw [show decide (200 < (s.length : Int)) = !decide (s.length ≤ 200) from by by_cases e : s.length ≤ 200 <;> simp [e] <;> omega, show decide (200 < (t.length : Int)) = !decide (t.length ≤ 200) from by by_cases e : t.length ≤ 200 <;> simp [e] <;> omega]
    cases decide (0 ≤ k) <;> cases decide (k ≤ 1023) <;> cases decide (s.length ≤ 200) <;> cases decide (t.length ≤ 200) <;> cases decide (s = t) <;> rfl)
  generalize hashK k = H at *
  cases h0 : decide (H < 0) with
  | true =>
    rw [h0] at HR
    go_enter Tryz.func39, Tryz.ntmps39
    go_wp2_with fail
    refine (HH.out _).mono ?_; rintro e w1 ⟨rfl, rfl⟩
    go_wp2_with fail
    go_ret
    exact ⟨by rw [HR.out]; rfl, HB.out⟩
  | false =>
    cases h1 : decide (200 < (s.length : Int)) with
    | true =>
      rw [h0, h1] at HR
      go_enter Tryz.func39, Tryz.ntmps39
      go_wp2_with fail
      refine (HH.out _).mono ?_; rintro e w1 ⟨rfl, rfl⟩
      go_wp2_with fail
      go_ret
      exact ⟨by rw [HR.out]; rfl, HB.out⟩
    | false =>
      cases h2 : decide (200 < (t.length : Int)) with
      | true =>
        rw [h0, h1, h2] at HR
        go_enter Tryz.func39, Tryz.ntmps39
        go_wp2_with fail
        refine (HH.out _).mono ?_; rintro e w1 ⟨rfl, rfl⟩
        go_wp2_with fail
        go_ret
        exact ⟨by rw [HR.out]; rfl, HB.out⟩
      | false =>
        rw [h0, h1, h2] at HR
        by_cases h4 : s = t
        · subst h4
          rw [decide_eq_true rfl] at HR
          go_enter Tryz.func39, Tryz.ntmps39
          go_wp2_with fail
          refine (HH.out _).mono ?_; rintro e w1 ⟨rfl, rfl⟩
          go_wp2_with fail
          go_ret
          exact ⟨by rw [HR.out]; simp, HB.out⟩
        · rw [decide_eq_false h4] at HR
          go_enter Tryz.func39, Tryz.ntmps39
          go_wp2_with fail
          refine (HH.out _).mono ?_; rintro e w1 ⟨rfl, rfl⟩
          go_wp2_with fail
          go_ret
          exact ⟨by rw [HR.out]; simp [h4], HB.out⟩
end Go.Proofs.YtjgjacihdggimaaGreatDoor
namespace Go.Proofs.YtjgjacihdggimaaGreatDoor
open Go.RowKit
def dchV (x : Ch) : Value := .agg #[.int .i64 x.key, .string ⟨x.fr.toArray⟩, .string ⟨x.tt.toArray⟩]
set_option maxHeartbeats 4000000 in
set_option maxRecDepth 10000 in
theorem pdindex_any {F : Nat} {p : Ch → Bool} {l : List Ch} {A : Option Addr} {ca : Nat} {w : World} {Q : Nat → Prop} (hE : ∀ (args : Array Value) (w : World), (callFunc F args).run Tryz.prog w = .ok (.enter F args) w) (hl : RowC w Q A l) (hll : l.length ≤ 1000000)
    (hR : ∀ x ∈ l, ∀ w', Below w.heap.size w w' → Calls Tryz.prog F #[dchV x] w' fun e w'' => e = .returned (.bool (p x)) ∧ Below w'.heap.size w' w'') :
    Calls Tryz.prog 61 #[.slice A l.length ca, .func (.func F) #[] #[]] w fun e w' => ∃ r : Int, e = .returned (.int .i64 r) ∧ decide (0 ≤ r) = l.any p ∧ Below w.heap.size w w' := by
  have HL := Lib.hid hl
  have HR := Lib.hid hR
  clear hl hR
  unfold dchV at HR
  go_enter Tryz.func61, Tryz.ntmps61
  go_wp2_with fail
  go_loopw [8] (fun vi wr => ∃ i : Nat, i ≤ l.length ∧ vi = .int .i64 (i : Int) ∧ Hid ((l.take i).any p = false) ∧ Below w.heap.size w wr) (fun vi _ => l.length - (RowKit.intOf vi).toNat)
  case atStart => exact ⟨0, Nat.zero_le _, rfl, Lib.hid (by rw [List.take_zero]; rfl), Below.refl _ _⟩
  case round =>
    obtain ⟨i, hi, rfl, HN, hb⟩ := hrel
    by_cases hlt : i < l.length
    · obtain ⟨x, hx⟩ : ∃ x, l[i]? = some x := ⟨_, List.getElem?_eq_getElem hlt⟩
      obtain ⟨g, o, rfl, _, hgl, hat⟩ := HL.out.at hlt
      obtain ⟨q0, q1, q2⟩ := hat.three hx
      have k0 := keep_cell hb q0
      have k1 := keep_cell hb q1
      have k2 := keep_cell hb q2
      have HX := Lib.hid (HR.out x (List.mem_of_getElem? hx) wr hb)
      have hI : (i : Int) < (l.length : Int) := by omega
      have hm := List.mem_of_getElem? hx
      have HY : Hid (p x = true → l.any p = true) := Lib.hid fun h => List.any_eq_true.2 ⟨x, hm, h⟩
      have HZ : Hid (p x = false → (l.take (i + 1)).any p = false) := Lib.hid fun h => by rw [List.take_add_one, hx, List.any_append, HN.out]; simp [h]
      clear hat q0 q1 q2 hx hm
      cases hp : p x with
      | true =>
        rw [hp] at HX
        have HY2 := Lib.hid (HY.out hp)
        clear hp HY HZ
        go_wp2_with fail
        refine HX.out.mono ?_; rintro e w1 ⟨rfl, hb1⟩
        go_wp2_with fail
        go_ret
        exact ⟨_, rfl, by rw [HY2.out]; exact decide_eq_true (by omega), hb.trans (hb1.mono hb.size)⟩
      | false =>
        rw [hp] at HX
        have HZ2 := Lib.hid (HZ.out hp)
        clear hp HY HZ HN
        go_wp2_with fail
        refine HX.out.mono ?_; rintro e w1 ⟨rfl, hb1⟩
        have hb2 := hb.trans (hb1.mono hb.size)
        go_wp2_with fail
        go_roundw
        case rel => exact ⟨i + 1, by omega, by go_num, HZ2, hb2⟩
        case measure => simp [RowKit.intOf]; omega
    · have hii : i = l.length := by omega
      subst hii
      have hn := HN.out
      rw [List.take_length] at hn
      have HN2 := Lib.hid hn
      clear hn HN
      go_wp2_with fail
      go_ret
      exact ⟨_, rfl, by rw [HN2.out]; rfl, hb⟩
set_option maxHeartbeats 4000000 in
set_option maxRecDepth 10000 in
theorem pdcontains_any {F : Nat} {p : Ch → Bool} {l : List Ch} {A : Option Addr} {ca : Nat} {w : World} {Q : Nat → Prop} (hE : ∀ (args : Array Value) (w : World), (callFunc F args).run Tryz.prog w = .ok (.enter F args) w) (hl : RowC w Q A l) (hll : l.length ≤ 1000000)
    (hR : ∀ x ∈ l, ∀ w', Below w.heap.size w w' → Calls Tryz.prog F #[dchV x] w' fun e w'' => e = .returned (.bool (p x)) ∧ Below w'.heap.size w' w'') :
    Calls Tryz.prog 38 #[.slice A l.length ca, .func (.func F) #[] #[]] w fun e w' => e = .returned (.bool (l.any p)) ∧ Below w.heap.size w w' := by
  have HI := Lib.hid (pdindex_any (ca := ca) hE hl hll hR)
  clear hl hR
  go_enter Tryz.func38, Tryz.ntmps38
  go_wp2_with fail
  refine HI.out.mono ?_; rintro e w1 ⟨r, rfl, hr, hb1⟩
  have HR1 := Lib.hid hr
  generalize hd : decide (0 ≤ r) = d at *
  go_wp2_with fail
  go_ret
  exact ⟨by rw [← HR1.out]; rfl, hb1⟩
end Go.Proofs.YtjgjacihdggimaaGreatDoor
namespace Go.Proofs.YtjgjacihdggimaaGreatDoor
open Go.RowKit Go.Shelf
def TPutQ (w : World) (B a room : Nat) (s : Sh) (K : Nat → Prop) (r : Sh × Int × Nat) (e : Ending) (w' : World) : Prop := ∃ K', e = .returned (.tuple #[.int .i64 r.2.1, .int .i64 (r.2.2 : Int)]) ∧ Lf9 w B a room r.1 K w' K'
end Go.Proofs.YtjgjacihdggimaaGreatDoor
