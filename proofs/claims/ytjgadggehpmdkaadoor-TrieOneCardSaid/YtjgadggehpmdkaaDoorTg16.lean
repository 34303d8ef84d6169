/- Texts joined: TqM, TqN, TqO, TpP, TpQ. -/
import Derived.Test.YtjgadggehpmdkaaDoorTg15
import Derived.Test.YtjgadggehpmdkaaDoorTg04
set_option linter.all false
namespace Go.Proofs.YtjgadggehpmdkaaDoor
open Go.RowKit Go.Shelf
theorem lf9_same {w w1 : World} {B a room : Nat} {s : Sh} {K : Nat → Prop} (h : On9 w B a room s K) (hb : Below w.heap.size w w1) : Lf9 w B a room s K w1 (fun g => K g ∨ (w.heap.size ≤ g ∧ g < w1.heap.size)) :=
  ⟨h.below hb, fun g hg => .inl hg, Kept.of_below hb, hb.mono h.base⟩
theorem lf9_trans {w w1 w2 : World} {B a room : Nat} {s s' : Sh} {K K2 : Nat → Prop} (h : On9 w B a room s K) (hb : Below w.heap.size w w1) (hl : Lf9 w1 B a room s' (fun g => K g ∨ (w.heap.size ≤ g ∧ g < w1.heap.size)) w2 K2) : Lf9 w B a room s' K w2 K2 :=
  ⟨hl.1, fun g hg => hl.2.1 g (.inl hg), (Kept.of_below hb).trans ⟨hl.2.2.1.size, fun g hg hlt => hl.2.2.1.block g (.inl hg) hlt⟩, (hb.mono h.base).trans hl.2.2.2⟩
noncomputable def pPutR (room : Nat) (s : Sh) (h : Int) (x : En) : Sh × Int × Nat := match hasT s h with
  | some l => if rightE x = true then putT room s (putE l x) else (s, 0, 1)
  | none => (s, 0, 1)
theorem pPutR_none {room : Nat} {s : Sh} {h : Int} {x : En} (e : hasT s h = none) : pPutR room s h x = (s, 0, 1) := by unfold pPutR; rw [e]
theorem pPutR_no {room : Nat} {s : Sh} {h : Int} {x : En} (e : rightE x ≠ true) : pPutR room s h x = (s, 0, 1) := by
  unfold pPutR
  cases hasT s h with
  | none => rfl
  | some l => exact if_neg e
theorem pPutR_yes {room : Nat} {s : Sh} {h : Int} {x : En} {f : Txs} (e : hasT s h = some (entX f 1024)) (hok : OkX f) (hr : rightE x = true) : pPutR room s h x = putT room s (entX (setX f x.key.toNat x.text) 1024) := by
  unfold pPutR
  rw [e]
  show (if rightE x = true then putT room s (putE (entX f 1024) x) else (s, 0, 1)) = _
  rw [if_pos hr]
  unfold putE
  rw [set_ent hok]
set_option maxHeartbeats 8000000 in
set_option maxRecDepth 10000 in
theorem ptrput_any {w : World} {B a room : Nat} {s : Sh} {K : Nat → Prop} (hA : On9 w B a room s K) (h : Int) (hh : -9223372036854775808 ≤ h ∧ h ≤ 9223372036854775807) (x : En) (hxl : x.text.length ≤ maxLen) :
    Calls Tryd.prog 10 #[.pointer (some ⟨a, 0, none⟩), .int .i64 h, enV x] w fun e w' => TPutQ w B a room s K (pPutR room s h x) e w' := by
  have hb0 : Below w.heap.size w (w.alloc (.cells #[.int .i64 x.key, .string ⟨x.text.toArray⟩] 36)) := (Below.refl _ _).alloc (Nat.le_refl _) _
  have HR := Lib.hid (pread_any (hA.below hb0) h hh)
  have HW := Lib.hid (fun w' => pwrong_any x w' hxl)
  have HA := Lib.hid hA
  have HB0 := Lib.hid hb0
  have a0 : (w.alloc (.cells #[.int .i64 x.key, .string ⟨x.text.toArray⟩] 36)).cell? ⟨w.heap.size, 0, none⟩ = some (.int .i64 x.key) := by rw [Lib.cell_of_heap (heap_alloc_new w _)]; rfl
  have a1 : (w.alloc (.cells #[.int .i64 x.key, .string ⟨x.text.toArray⟩] 36)).cell? ⟨w.heap.size, 1, none⟩ = some (.string ⟨x.text.toArray⟩) := by rw [Lib.cell_of_heap (heap_alloc_new w _)]; rfl
  have HA0 := Lib.hid a0
  have HA1 := Lib.hid a1
  have hno := @pPutR_no room s h x
  have HNo := Lib.hid hno
  have HNn := Lib.hid (@pPutR_none room s h x)
  have HYes := Lib.hid (fun (f : Txs) e ho hr => pPutR_yes (room := room) (s := s) (h := h) (x := x) (f := f) e ho hr)
  clear hA hb0 a0 a1 hno
  generalize pPutR room s h x = PR at *
  unfold enV
  go_enter Tryd.func10, Tryd.ntmps10
  go_wp2_with fail
  refine HR.out.mono ?_; rintro e w1 ⟨f, b, rfl, hok, hhas, hb1⟩
  have HS := Lib.hid hhas
  have HOk := Lib.hid hok
  have hb01 := HB0.out.trans (hb1.mono HB0.out.size)
  have hbt : Below w1.heap.size w1 (w1.alloc (.cells (txC f) 53)) := (Below.refl _ _).alloc (Nat.le_refl _) _
  have HBt := Lib.hid (hb01.trans (hbt.mono hb01.size))
  have k0 := keep_cell hbt (keep_cell hb1 HA0.out)
  have k1 := keep_cell hbt (keep_cell hb1 HA1.out)
  have HT : Hid (TX (w1.alloc (.cells (txC f) 53)) w1.heap.size f) := Lib.hid (heap_alloc_new w1 _)
  have hX : w.heap.size < w1.heap.size := by have := hb1.size; simp at this; omega
  have hXt : w.heap.size < (w1.alloc (.cells (txC f) 53)).heap.size := by simp; omega
  clear hhas hb1 hok hb01 hbt HA0 HA1 HR
  cases b with
  | false =>
    have HP := Lib.hid (HNn.out (HS.out.trans (if_neg (by decide))))
    go_wp2_with (refine wpList_store_row rfl 53 _ _ rfl w1.heap.size (txC f) rfl rfl 53 _ (heap_alloc_new w1 _) (by rw [txC_size]; exact texts_info) (by rw [txC_size]; first | exact hold_st (w := w1) | rfl) (txC_one f) ?_; rw [World.setRow_alloc_new])
    go_ret2
    exact ⟨_, by rw [HP.out]; rfl, by rw [HP.out]; exact lf9_same HA.out HBt.out⟩
  | true =>
    have HS2 := Lib.hid (HS.out.trans (if_pos rfl))
    clear HS
    by_cases hri : rightE x = true
    · rw [hri] at HW
      have hrb := (right_iffE.1 hri).1
      have hrc := (right_iffE.1 hri).2.1
      have hrl := (right_iffE.1 hri).2.2.2
      have HP := Lib.hid (HYes.out _ HS2.out HOk.out hri)
      have hOk2 := setX_ok HOk.out x.key.toNat hrl
      obtain ⟨kx, tx⟩ := x
      change 0 ≤ kx at hrb
      change kx ≤ 1023 at hrc
      obtain ⟨j, rfl⟩ : ∃ j : Nat, kx = (j : Int) := ⟨kx.toNat, by omega⟩
      have hj : j < 1024 := by omega
      have HP2 : Hid (PR = putT room s (entX (setX f j tx) 1024)) := Lib.hid HP.out
      have HOk3 : Hid (OkX (setX f j tx)) := Lib.hid hOk2
      clear hri hrl HP HYes HNo HNn hOk2 HOk
      go_wp2_with (refine wpList_store_row rfl 53 _ _ rfl w1.heap.size (txC f) rfl rfl 53 _ (heap_alloc_new w1 _) (by rw [txC_size]; exact texts_info) (by rw [txC_size]; first | exact hold_st (w := w1) | rfl) (txC_one f) ?_; rw [World.setRow_alloc_new])
      generalize (w1.alloc (.cells (txC f) 53)) = Wt at *
      refine (HW.out _).mono ?_; rintro e w3 ⟨rfl, hb3⟩
      have hT3 := HT.out.below hb3
      have c0 := keep_cell hb3 k0
      have c1 := keep_cell hb3 k1
      have t0 := hT3.cell hj
      have t1 := hT3.frozen j
      have hX3 : w.heap.size < w3.heap.size := Lib.lt_of_cell c0
      have hT4 := hT3.set hj tx
      have zT := hT3.lt
      have HT4 := Lib.hid hT4
      have hb4 : Below w.heap.size w (w3.setCell ⟨w1.heap.size, j, none⟩ (.string ⟨tx.toArray⟩)) := (HBt.out.trans (hb3.mono HBt.out.size)).setCell (by show w.heap.size ≤ w1.heap.size; omega) _
      have HC := Lib.hid (ptput_any (HA.out.below hb4) HT4.out HOk3.out)
      have HB4 := Lib.hid hb4
      clear hT3 hT4 hb4 hb3 HT k0 k1
      go_wp2_with fail
      refine HC.out.mono ?_; rintro e w5 ⟨K5, rfl, hlf⟩
      have HLf := Lib.hid (lf9_trans HA.out HB4.out hlf)
      rw [← HP2.out] at HLf
      clear hlf HC
      go_wp2_with fail
      go_ret2
      refine ⟨K5, ?_, HLf.out⟩
      rw [HP2.out]; rfl
    · rw [Bool.eq_false_iff.2 hri] at HW
      have HP := Lib.hid (HNo.out hri)
      clear hri HYes HNo HNn
      go_wp2_with (refine wpList_store_row rfl 53 _ _ rfl w1.heap.size (txC f) rfl rfl 53 _ (heap_alloc_new w1 _) (by rw [txC_size]; exact texts_info) (by rw [txC_size]; first | exact hold_st (w := w1) | rfl) (txC_one f) ?_; rw [World.setRow_alloc_new])
      generalize (w1.alloc (.cells (txC f) 53)) = Wt at *
      refine (HW.out _).mono ?_; rintro e w3 ⟨rfl, hb3⟩
      have HB3 := Lib.hid (HBt.out.trans (hb3.mono HBt.out.size))
      clear hb3
      go_wp2_with fail
      go_ret2
      exact ⟨_, by rw [HP.out]; rfl, by rw [HP.out]; exact lf9_same HA.out HB3.out⟩
end Go.Proofs.YtjgadggehpmdkaaDoor
namespace Go.Proofs.YtjgadggehpmdkaaDoor
open Go.RowKit Go.Shelf
noncomputable def pDelR (room : Nat) (s : Sh) (h k : Int) : Sh × Int × Nat := match hasT s h with
  | some l => if 0 ≤ k ∧ k ≤ 1023 then (match getL l k with
    | none => (s, 0, 4)
    | some _ => putT room s (delE l k)) else (s, 0, 1)
  | none => (s, 0, 1)
theorem pDelR_none {room : Nat} {s : Sh} {h k : Int} (e : hasT s h = none) : pDelR room s h k = (s, 0, 1) := by unfold pDelR; rw [e]
theorem pDelR_no {room : Nat} {s : Sh} {h k : Int} (e : ¬ (0 ≤ k ∧ k ≤ 1023)) : pDelR room s h k = (s, 0, 1) := by
  unfold pDelR
  cases hasT s h with
  | none => rfl
  | some l => exact if_neg e
theorem pDelR_lack {room : Nat} {s : Sh} {h k : Int} {l : List En} (e : hasT s h = some l) (hk : 0 ≤ k ∧ k ≤ 1023) (hg : getL l k = none) : pDelR room s h k = (s, 0, 4) := by
  unfold pDelR
  rw [e]
  show (if 0 ≤ k ∧ k ≤ 1023 then (match getL l k with | none => (s, 0, 4) | some _ => putT room s (delE l k)) else (s, 0, 1)) = _
  rw [if_pos hk, hg]
theorem pDelR_some {room : Nat} {s : Sh} {h k : Int} {l : List En} {v : List UInt8} (e : hasT s h = some l) (hk : 0 ≤ k ∧ k ≤ 1023) (hg : getL l k = some v) : pDelR room s h k = putT room s (delE l k) := by
  unfold pDelR
  rw [e]
  show (if 0 ≤ k ∧ k ≤ 1023 then (match getL l k with | none => (s, 0, 4) | some _ => putT room s (delE l k)) else (s, 0, 1)) = _
  rw [if_pos hk, hg]
theorem del_ent {f : Txs} (hok : OkX f) (j : Nat) : delE (entX f 1024) (j : Int) = entX (setX f j []) 1024 := by
  unfold delE
  rw [show ((j : Int)).toNat = j by omega, set_ent hok]
set_option maxHeartbeats 8000000 in
set_option maxRecDepth 10000 in
theorem ptrdel_any {w : World} {B a room : Nat} {s : Sh} {K : Nat → Prop} (hA : On9 w B a room s K) (h : Int) (hh : -9223372036854775808 ≤ h ∧ h ≤ 9223372036854775807) (k : Int) :
    Calls Tryd.prog 13 #[.pointer (some ⟨a, 0, none⟩), .int .i64 h, .int .i64 k] w fun e w' => TPutQ w B a room s K (pDelR room s h k) e w' := by
  have HR := Lib.hid (pread_any hA h hh)
  have HH := Lib.hid (fun w => phash_any k w)
  have HA := Lib.hid hA
  have HNn := Lib.hid (fun e => pDelR_none (room := room) (s := s) (h := h) (k := k) e)
  have HNo := Lib.hid (fun e => pDelR_no (room := room) (s := s) (h := h) (k := k) e)
  have HLk := Lib.hid (fun l e hk hg => pDelR_lack (room := room) (s := s) (h := h) (k := k) (l := l) e hk hg)
  have HSm := Lib.hid (fun l v e hk hg => pDelR_some (room := room) (s := s) (h := h) (k := k) (l := l) (v := v) e hk hg)
  clear hA
  generalize pDelR room s h k = PR at *
  go_enter Tryd.func13, Tryd.ntmps13
  go_wp2_with fail
  refine HR.out.mono ?_; rintro e w1 ⟨f, b, rfl, hok, hhas, hb1⟩
  have HS := Lib.hid hhas
  have HOk := Lib.hid hok
  have hbt : Below w1.heap.size w1 (w1.alloc (.cells (txC f) 53)) := (Below.refl _ _).alloc (Nat.le_refl _) _
  have HBt := Lib.hid (hb1.trans (hbt.mono hb1.size))
  have HT : Hid (TX (w1.alloc (.cells (txC f) 53)) w1.heap.size f) := Lib.hid (heap_alloc_new w1 _)
  have hX : w.heap.size ≤ w1.heap.size := hb1.size
  clear hhas hb1 hok hbt HR
  cases b with
  | false =>
    have HP := Lib.hid (HNn.out (HS.out.trans (if_neg (by decide))))
    go_wp2_with (refine wpList_store_row rfl 53 _ _ rfl w1.heap.size (txC f) rfl rfl 53 _ (heap_alloc_new w1 _) (by rw [txC_size]; exact texts_info) (by rw [txC_size]; first | exact hold_st (w := w1) | rfl) (txC_one f) ?_; rw [World.setRow_alloc_new])
    go_ret2
    exact ⟨_, by rw [HP.out]; rfl, by rw [HP.out]; exact lf9_same HA.out HBt.out⟩
  | true =>
    have HS2 := Lib.hid (HS.out.trans (if_pos rfl))
    clear HS
    by_cases hk : 0 ≤ k ∧ k ≤ 1023
    · have d1 : decide (hashK k < 0) = false := decide_eq_false (by have := hash_bound hk; omega)
      obtain ⟨j, rfl⟩ : ∃ j : Nat, k = (j : Int) := ⟨k.toNat, by omega⟩
      have hj : j < 1024 := by omega
      have HG := Lib.hid (getX HOk.out (Nat.le_refl _) hj)
      have hJ : (j : Int) < 1024 := by omega
      have hJ0 : (0 : Int) ≤ (j : Int) := by omega
      have HK := Lib.hid hk
      have t0 := HT.out.cell hj
      have t1 := HT.out.frozen j
      have zT := HT.out.lt
      have hT4 := HT.out.set hj []
      have HT4 := Lib.hid hT4
      have hb4 : Below w.heap.size w ((w1.alloc (.cells (txC f) 53)).setCell ⟨w1.heap.size, j, none⟩ (.string ⟨([] : List UInt8).toArray⟩)) := HBt.out.setCell hX _
      have HB4 := Lib.hid hb4
      have HOk4 := Lib.hid (setX_ok HOk.out j (v := []) (Nat.zero_le _))
      have HC := Lib.hid (ptput_any (HA.out.below hb4) HT4.out HOk4.out)
      have HDe := Lib.hid (del_ent HOk.out j)
      generalize hashK (j : Int) = H at *
      clear hk hT4 hb4
      by_cases hV : f j = []
      · have HP := Lib.hid (HLk.out _ HS2.out HK.out (HG.out.trans (if_pos hV)))
        rw [hV] at t0
        clear hV HT4 HC HB4 t1
        go_wp2_with (refine wpList_store_row rfl 53 _ _ rfl w1.heap.size (txC f) rfl rfl 53 _ (heap_alloc_new w1 _) (by rw [txC_size]; exact texts_info) (by rw [txC_size]; first | exact hold_st (w := w1) | rfl) (txC_one f) ?_; rw [World.setRow_alloc_new])
        refine (HH.out _).mono ?_; rintro e w2 ⟨rfl, rfl⟩
        go_wp2_with fail
        go_ret2
        exact ⟨_, by rw [HP.out]; rfl, by rw [HP.out]; exact lf9_same HA.out HBt.out⟩
      · have HP := Lib.hid ((HSm.out _ _ HS2.out HK.out (HG.out.trans (if_neg hV))).trans (by rw [HDe.out]))
        have hVe : (f j).isEmpty = false := by cases e : f j with | nil => exact absurd e hV | cons _ _ => rfl
        clear hV
        generalize f j = V at *
        go_wp2_with (refine wpList_store_row rfl 53 _ _ rfl w1.heap.size (txC f) rfl rfl 53 _ (heap_alloc_new w1 _) (by rw [txC_size]; exact texts_info) (by rw [txC_size]; first | exact hold_st (w := w1) | rfl) (txC_one f) ?_; rw [World.setRow_alloc_new])
        generalize (w1.alloc (.cells (txC f) 53)) = Wt at *
        refine (HH.out _).mono ?_; rintro e w2 ⟨rfl, rfl⟩
        go_wp2_with fail
        refine HC.out.mono ?_; rintro e w5 ⟨K5, rfl, hlf⟩
        have HLf := Lib.hid (lf9_trans HA.out HB4.out hlf)
        rw [← HP.out] at HLf
        clear hlf HC
        go_wp2_with fail
        go_ret2
        refine ⟨K5, ?_, HLf.out⟩
        rw [HP.out]; rfl
    · have d1 : decide (hashK k < 0) = true := by unfold hashK; rw [if_neg hk]; rfl
      have HP := Lib.hid (HNo.out hk)
      generalize hashK k = H at *
      clear hk
      go_wp2_with (refine wpList_store_row rfl 53 _ _ rfl w1.heap.size (txC f) rfl rfl 53 _ (heap_alloc_new w1 _) (by rw [txC_size]; exact texts_info) (by rw [txC_size]; first | exact hold_st (w := w1) | rfl) (txC_one f) ?_; rw [World.setRow_alloc_new])
      refine (HH.out _).mono ?_; rintro e w2 ⟨rfl, rfl⟩
      go_wp2_with fail
      go_ret2
      exact ⟨_, by rw [HP.out]; rfl, by rw [HP.out]; exact lf9_same HA.out HBt.out⟩
end Go.Proofs.YtjgadggehpmdkaaDoor
namespace Go.Proofs.YtjgadggehpmdkaaDoor
open Go.RowKit Go.Shelf
def bldF (l : List En) : Txs := l.foldl (fun f x => setX f x.key.toNat x.text) (fun _ => [])
def dupF : Txs → List En → Bool
  | _, [] => false
  | f, x :: r => if f x.key.toNat = [] then dupF (setX f x.key.toNat x.text) r else true
def pBldR (room : Nat) (s : Sh) (l : List En) : Sh × Int × Nat :=
  if (l.any fun x => !rightE x) = true then (s, 0, 1) else if dupF (fun _ => []) l = true then (s, 0, 5) else putT room s (entX (bldF l) 1024)
theorem bldF_ok {l : List En} (h : ∀ x ∈ l, rightE x = true) : OkX (bldF l) := by
  unfold bldF
  have key : ∀ (l : List En) (f : Txs), OkX f → (∀ x ∈ l, rightE x = true) → OkX (l.foldl (fun f x => setX f x.key.toNat x.text) f) := by
    intro l
    induction l with
    | nil => intro f h _; exact h
    | cons x l ih =>
      intro f hf h
      rw [List.foldl_cons]
      exact ih _ (setX_ok hf _ (right_iffE.1 (h x (by simp))).2.2.2) fun y hy => h y (List.mem_cons_of_mem _ hy)
  exact key l _ (fun k => Nat.zero_le _) h
set_option maxHeartbeats 16000000 in
set_option maxRecDepth 10000 in
theorem ptbuild_any {w : World} {B a room : Nat} {s : Sh} {K : Nat → Prop} (hA : On9 w B a room s K) (l : List En) (A : Option Addr) (ca : Nat) {Q : Nat → Prop} (hl : RowE w Q A l) (hll : l.length ≤ 1000000) (hlt : ∀ x ∈ l, x.text.length ≤ maxLen) :
    Calls Tryd.prog 6 #[.pointer (some ⟨a, 0, none⟩), .slice A l.length ca] w fun e w' => TPutQ w B a room s K (pBldR room s l) e w' := by
  have HCo := Lib.hid (pcontains0_any (F := 18) (p := fun x => !rightE x) (ca := ca) (enters_of Tryd.func18 (by kernel_rfl) rfl) hl hll (fun x hx w' _ => pwrong_any x w' (hlt x hx)))
  have HA := Lib.hid hA
  have HL := Lib.hid hl
  have HP : Hid (pBldR room s l = if (l.any fun x => !rightE x) = true then (s, 0, 1) else if dupF (fun _ => []) l = true then (s, 0, 5) else putT room s (entX (bldF l) 1024)) := Lib.hid rfl
  clear hA hl hlt
  generalize pBldR room s l = PR at *
  cases hany : (l.any fun x => !rightE x) with
  | true =>
    rw [hany] at HCo HP
    have HP2 : Hid (PR = (s, 0, 1)) := Lib.hid (HP.out.trans (if_pos rfl))
    clear hany
    go_enter Tryd.func6, Tryd.ntmps6
    go_wp2_with fail
    refine HCo.out.mono ?_; rintro e w1 ⟨rfl, hb1⟩
    have HB1 := Lib.hid hb1
    clear hb1
    go_wp2_with fail
    go_ret2
    exact ⟨_, by rw [HP2.out]; rfl, by rw [HP2.out]; exact lf9_same HA.out HB1.out⟩
  | false =>
    rw [hany] at HCo HP
    have HP2 : Hid (PR = if dupF (fun _ => []) l = true then (s, 0, 5) else putT room s (entX (bldF l) 1024)) := Lib.hid (HP.out.trans (if_neg (by decide)))
    have HAll : Hid (∀ x ∈ l, rightE x = true) := Lib.hid fun x hx => by
      have := List.any_eq_false.1 hany x hx
      simpa using this
    clear hany HP
    go_enter Tryd.func6, Tryd.ntmps6
    go_wp2_with fail
    refine HCo.out.mono ?_; rintro e w1 ⟨rfl, hb1⟩
    have hbt : Below w1.heap.size w1 (w1.alloc (.cells Tryd.zeroCells53 53)) := (Below.refl _ _).alloc (Nat.le_refl _) _
    have HBt := Lib.hid (hb1.trans (hbt.mono hb1.size))
    have hT0 : TX (w1.alloc (.cells Tryd.zeroCells53 53)) w1.heap.size (fun _ => []) := by
      have := heap_alloc_new w1 (.cells Tryd.zeroCells53 53)
      rw [texts_zero] at this
      exact this
    have HT0 := Lib.hid hT0
    have hX : w.heap.size ≤ w1.heap.size := hb1.size
    clear hb1 hbt hT0 HCo
    go_wp2_with fail
    go_loopw [17] (fun vi wr => ∃ i : Nat, i ≤ l.length ∧ vi = .int .i64 (i : Int) ∧ Hid (TX wr w1.heap.size (bldF (l.take i))) ∧ Hid (dupF (fun _ => []) l = dupF (bldF (l.take i)) (l.drop i)) ∧ Hid (Below w.heap.size w wr)) (fun vi _ => l.length - (RowKit.intOf vi).toNat)
    case atStart => exact ⟨0, Nat.zero_le _, rfl, HT0, Lib.hid (by rw [List.take_zero, List.drop_zero]; rfl), HBt⟩
    case round =>
      obtain ⟨i, hi, rfl, HT, HD, HB⟩ := hrel
      by_cases hlt : i < l.length
      · obtain ⟨x, hx⟩ : ∃ x, l[i]? = some x := ⟨_, List.getElem?_eq_getElem hlt⟩
        obtain ⟨g, o, rfl, _, hgl, hat⟩ := HL.out.at hlt
        obtain ⟨q0, q1⟩ := hat.two hx
        have k0 := keep_cell HB.out q0
        have k1 := keep_cell HB.out q1
        have hri := right_iffE.1 (HAll.out x (List.mem_of_getElem? hx))
        have hdr : l.drop i = x :: l.drop (i + 1) := by
          rw [List.drop_eq_getElem_cons hlt, (List.getElem?_eq_some_iff.1 hx).2]
        have hbs : bldF (l.take (i + 1)) = setX (bldF (l.take i)) x.key.toNat x.text := by
          unfold bldF
          rw [List.take_add_one, hx, List.foldl_append]; rfl
        have HBs := Lib.hid hbs
        have hdd : dupF (fun _ => []) l = if bldF (l.take i) x.key.toNat = [] then dupF (setX (bldF (l.take i)) x.key.toNat x.text) (l.drop (i + 1)) else true := by rw [HD.out, hdr, dupF]
        have HDd := Lib.hid hdd
        have hkI : (i : Int) < (l.length : Int) := by omega
        obtain ⟨kx, tx⟩ := x
        have hrb : 0 ≤ kx := hri.1
        have hrc : kx ≤ 1023 := hri.2.1
        obtain ⟨j, rfl⟩ : ∃ j : Nat, kx = (j : Int) := ⟨kx.toNat, by omega⟩
        have hj : j < 1024 := by omega
        have hba : Below wr.heap.size wr (wr.alloc (.cells #[.int .i64 (j : Int), .string ⟨tx.toArray⟩] 36)) := (Below.refl _ _).alloc (Nat.le_refl _) _
        have hT1 := HT.out.below hba
        have t0 := hT1.cell hj
        have t1 := hT1.frozen j
        have zT := hT1.lt
        have HB1 := Lib.hid (HB.out.trans (hba.mono HB.out.size))
        have hT2 := hT1.set hj tx
        have HT2 : Hid (TX ((wr.alloc (.cells #[.int .i64 (j : Int), .string ⟨tx.toArray⟩] 36)).setCell ⟨w1.heap.size, j, none⟩ (.string ⟨tx.toArray⟩)) w1.heap.size (bldF (l.take (i + 1)))) := Lib.hid (by rw [HBs.out]; exact hT2)
        have HB2 := Lib.hid (HB1.out.setCell (p := ⟨w1.heap.size, j, none⟩) hX (.string ⟨tx.toArray⟩))
        have hDn : bldF (l.take i) j = [] → dupF (fun _ => []) l = dupF (bldF (l.take (i + 1))) (l.drop (i + 1)) := fun e => by
          rw [HBs.out]
          exact HDd.out.trans (if_pos e)
        have hDy : ¬ bldF (l.take i) j = [] → dupF (fun _ => []) l = true := fun e => HDd.out.trans (if_neg e)
        have HDn := Lib.hid hDn
        have HDy := Lib.hid hDy
        clear hat q0 q1 hx hri hdr hbs hdd hba hT1 hT2 hDn hDy hrb hrc HT HD
        by_cases hV : bldF (l.take i) j = []
        · have HD2 := Lib.hid (HDn.out hV)
          rw [hV] at t0
          clear hV HDn HDy
          go_wp2_with fail
          go_roundw
          case rel => exact ⟨i + 1, by omega, by go_num, HT2, HD2, HB2⟩
          case measure => simp [RowKit.intOf]; omega
        · have HP3 := Lib.hid (HP2.out.trans (if_pos (HDy.out hV)))
          have hVe : (bldF (l.take i) j).isEmpty = false := by cases e : bldF (l.take i) j with | nil => exact absurd e hV | cons _ _ => rfl
          clear hV HDn HDy HDd HBs HT2 HB2
          generalize bldF (l.take i) j = V at *
          go_wp2_with fail
          go_ret2
          exact ⟨_, by rw [HP3.out]; rfl, by rw [HP3.out]; exact lf9_same HA.out HB1.out⟩
      · have hii : i = l.length := by omega
        subst hii
        have hT := HT.out
        have hD := HD.out
        rw [List.take_length] at hT hD
        rw [List.drop_length, dupF] at hD
        have HP3 : Hid (PR = putT room s (entX (bldF l) 1024)) := Lib.hid (by rw [HP2.out, hD]; exact if_neg (by decide))
        have HC := Lib.hid (ptput_any (HA.out.below HB.out) hT (bldF_ok HAll.out))
        clear hT hD
        go_wp2_with fail
        refine HC.out.mono ?_; rintro e w5 ⟨K5, rfl, hlf⟩
        have HLf := Lib.hid (lf9_trans HA.out HB.out hlf)
        rw [← HP3.out] at HLf
        clear hlf HC
        go_wp2_with fail
        go_ret2
        refine ⟨K5, ?_, HLf.out⟩
        rw [HP3.out]; rfl
end Go.Proofs.YtjgadggehpmdkaaDoor
namespace Go.Proofs.YtjgadggehpmdkaaDoor
theorem putT_good {room : Nat} {s : Sh} (hi : Inv room s) {l : List En} (ho : OkL l) (hne : l ≠ []) (hr : cntS s + cost s (trK 2 l) ≤ room) :
    (putT room s l).2.2 = 0 ∧ IsT (putT room s l).1 (putT room s l).2.1 l ∧ Inv room (putT room s l).1 ∧ Up s (putT room s l).1 ∧ cntS (putT room s l).1 ≤ cntS s + cost s (trK 2 l) ∧ cntS s ≤ cntS (putT room s l).1 := by
  have hN : nodesL l = fl (trK 2 l) [] := by unfold nodesL; rw [if_neg hne]
  obtain ⟨s', c, p1, p2, p3, p4, p5⟩ := put_tree (room := room) (s0 := s) (trK 2 l) [] (fl (trK 2 l) []) s [] hi (Up.refl _) (fun h hh => by cases hh) rfl rfl hr
  obtain ⟨h, b, q1, q2, q3, q4⟩ := at_put (trK 2 l) [] s s' [] c (fl (trK 2 l) []) rfl rfl p1
  have hw := fl_right s (trK 2 l) [] (fl (trK 2 l) []) rfl
  have hP : putA room s (nodesL l) = (s', c, 0) := by
    rw [hN]
    exact put_good hw p1
  have hc : c ≠ [] := fun e => by rw [e] at q3; cases q3
  have hl : c.getLastD 0 = h := by rw [List.getLastD_eq_getLast?, q3]; rfl
  unfold putT
  rw [hP]
  show (if c = [] then 0 else 0) = 0 ∧ IsT s' (c.getLastD 0) l ∧ _
  rw [hl]
  exact ⟨by split <;> rfl, ⟨ho, .inr ⟨hne, q4⟩⟩, p3, p4, p2, cnt_up p1⟩
theorem putT_nil (room : Nat) (s : Sh) : putT room s [] = (s, 0, 0) := by
  unfold putT
  have : putA room s (nodesL []) = (s, [], 0) := by unfold nodesL; rw [if_pos rfl]; rfl
  rw [this]; rfl
theorem putT_any {room : Nat} {s : Sh} (hi : Inv room s) {l : List En} (ho : OkL l) (hr : l ≠ [] → cntS s + cost s (trK 2 l) ≤ room) :
    (putT room s l).2.2 = 0 ∧ IsT (putT room s l).1 (putT room s l).2.1 l ∧ Inv room (putT room s l).1 ∧ Up s (putT room s l).1 ∧ (l = [] ∨ cntS (putT room s l).1 ≤ cntS s + cost s (trK 2 l)) ∧ cntS s ≤ cntS (putT room s l).1 ∧ (l = [] → cntS (putT room s l).1 = cntS s) := by
  by_cases h : l = []
  · subst h
    rw [putT_nil]
    exact ⟨rfl, ⟨ho, .inl ⟨rfl, rfl⟩⟩, hi, Up.refl _, .inl rfl, Nat.le_refl _, fun _ => rfl⟩
  · obtain ⟨a, b, c, d, e, f⟩ := putT_good hi ho h (hr h)
    exact ⟨a, b, c, d, .inr e, f, fun e => absurd e h⟩
/- the leaves of a trie that stands stand -/
theorem leaves_at {s : Sh} : ∀ (k : Nat) {l : List En}, KeyIn l → ∀ {h : Int}, At s (trK k l) h → l ≠ [] → ∀ y ∈ l, ∃ h', At s (leafT y) h'
  | 0, l, _, h, hA, _, y, hy => by
    rw [trK] at hA
    exact buk_at hA y hy
  | k + 1, l, hk, h, hA, _, y, hy => by
    rw [trK] at hA
    split at hA
    · exact buk_at hA y hy
    · rw [At] at hA
      obtain ⟨hs, _, hl⟩ := hA
      have hd := dig_bound (hk y hy) (1 - k)
      obtain ⟨d, hd'⟩ : ∃ d : Nat, digK y.key (1 - k) = (d : Int) := ⟨(digK y.key (1 - k)).toNat, by omega⟩
      have hym : y ∈ partD l (1 - k) d := List.mem_filter.2 ⟨hy, by simpa using hd'⟩
      have hne : partD l (1 - k) d ≠ [] := fun e => by rw [e] at hym; cases hym
      have hpm : partD l (1 - k) d ∈ partsD l (1 - k) 32 := by
        unfold partsD
        refine List.mem_filter.2 ⟨List.mem_map.2 ⟨d, List.mem_range.2 (by omega), rfl⟩, ?_⟩
        cases e : partD l (1 - k) d with
        | nil => exact absurd e hne
        | cons _ _ => rfl
      obtain ⟨h', hA'⟩ := atL_mem hl (List.mem_map.2 ⟨_, hpm, rfl⟩)
      exact leaves_at k (fun x hx => hk x (List.mem_filter.1 hx).1) hA' hne y hym
where
  atL_mem {s : Sh} : ∀ {ts : List Tr} {hs : List Int} {t : Tr}, AtL s ts hs → t ∈ ts → ∃ h, At s t h
    | u :: ts, hs, t, h, hm => by
      rw [AtL] at h
      obtain ⟨x, hs', rfl, a, b⟩ := h
      rcases List.mem_cons.1 hm with e | e
      · rw [e]; exact ⟨x, a⟩
      · exact atL_mem b e
  buk_at {s : Sh} {l : List En} {h : Int} (hA : At s (bukT l) h) (y : En) (hy : y ∈ l) : ∃ h', At s (leafT y) h' := by
    unfold bukT at hA
    split at hA
    · rename_i x
      obtain rfl : y = x := by simpa using hy
      exact ⟨h, hA⟩
    · rw [At] at hA
      obtain ⟨hs, _, hl⟩ := hA
      exact leaves_at.atL_mem hl (List.mem_map.2 ⟨y, hy, rfl⟩)
def Ins (l l' : List En) (x : En) : Prop := ∀ y, y ∈ l' ↔ y = x ∨ (y ∈ l ∧ y.key ≠ x.key)
theorem cost_leaf (s : Sh) (x : En) : cost s (leafT x) ≤ 1 := by
  have := cost_sz s (leafT x)
  unfold leafT at this ⊢
  rw [szT', szL'] at this
  exact this
theorem costL_leaves {s : Sh} {x : En} : ∀ {l : List En}, l.Nodup → (∀ y ∈ l, y ≠ x → ∃ h, At s (leafT y) h) → costL s (l.map leafT) ≤ 1
  | [], _, _ => by rw [List.map_nil, costL]; exact Nat.zero_le _
  | y :: l, hn, h => by
    rw [List.map_cons, costL]
    rw [List.nodup_cons] at hn
    by_cases e : y = x
    · have h0 : ∀ {m : List En}, (∀ z ∈ m, ∃ h, At s (leafT z) h) → costL s (m.map leafT) = 0 := by
        intro m
        induction m with
        | nil => intro _; rw [List.map_nil, costL]
        | cons z m ih =>
          intro hm
          obtain ⟨q, hq⟩ := hm z (by simp)
          rw [List.map_cons, costL, cost_at hq, ih fun u hu => hm u (List.mem_cons_of_mem _ hu)]
      rw [h0 fun z hz => h z (List.mem_cons_of_mem _ hz) fun ez => hn.1 (by rw [e, ← ez]; exact hz)]
      have := cost_leaf s y
      omega
    · obtain ⟨q, hq⟩ := h y (by simp) e
      rw [cost_at hq, Nat.zero_add]
      exact costL_leaves hn.2 fun z hz => h z (List.mem_cons_of_mem _ hz)
theorem cost_buk {s : Sh} {x : En} {l : List En} (ho : OkL l) (h : ∀ y ∈ l, y ≠ x → ∃ h, At s (leafT y) h) : cost s (bukT l) ≤ 2 := by
  unfold bukT
  split
  · exact Nat.le_trans (cost_leaf s _) (by decide)
  · have h1 := costL_leaves ho.nodup h
    rw [cost]
    split
    · exact Nat.zero_le _
    · omega
theorem part_ok {l : List En} (h : OkL l) (lv d : Nat) : OkL (partD l lv d) := okL_sub h List.filter_sublist
theorem part_mem {l : List En} {lv d : Nat} {y : En} : y ∈ partD l lv d ↔ y ∈ l ∧ digK y.key lv = (d : Int) := by
  unfold partD
  rw [List.mem_filter]
  simp
theorem part_at {s : Sh} {k : Nat} {l : List En} (ho : OkL l) {h : Int} (hA : At s (trK (k + 1) l) h) {d : Nat} (hd : d < 32) (hne : partD l (1 - k) d ≠ []) : ∃ h', At s (trK k (partD l (1 - k) d)) h' := by
  by_cases hoh : oneH l = true
  · have e1 : trK (k + 1) l = bukT l := by rw [trK, if_pos hoh]
    have hall : ∀ x ∈ l, ∀ y ∈ l, hashK x.key = hashK y.key := fun x hx y hy => by
      cases l with
      | nil => cases hx
      | cons z r =>
        have hz : ∀ u ∈ z :: r, hashK u.key = hashK z.key := fun u hu => by
          rcases List.mem_cons.1 hu with e | e
          · rw [e]
          · exact of_decide_eq_true (List.all_eq_true.1 (show (r.all fun y => decide (hashK y.key = hashK z.key)) = true from hoh) u e)
        rw [hz x hx, hz y hy]
    obtain ⟨y, hy⟩ := List.exists_mem_of_ne_nil _ hne
    have hy' := part_mem.1 hy
    have e2 : partD l (1 - k) d = l := by
      refine (part_ok ho _ _).eq ho fun z => ⟨fun hz => (part_mem.1 hz).1, fun hz => part_mem.2 ⟨hz, ?_⟩⟩
      rw [← hy'.2]
      unfold digK
      rw [hall z hz y hy'.1]
    rw [e2]
    have e3 : trK k l = bukT l := by
      cases k with
      | zero => rw [trK]
      | succ k => rw [trK, if_pos hoh]
    rw [e3, ← e1]
    exact ⟨h, hA⟩
  · rw [trK, if_neg hoh, At] at hA
    obtain ⟨hs, _, hl⟩ := hA
    refine leaves_at.atL_mem hl (List.mem_map.2 ⟨_, ?_, rfl⟩)
    unfold partsD
    refine List.mem_filter.2 ⟨List.mem_map.2 ⟨d, List.mem_range.2 hd, rfl⟩, ?_⟩
    cases e : partD l (1 - k) d with
    | nil => exact absurd e hne
    | cons _ _ => rfl
theorem cost_ins {s : Sh} {x : En} : ∀ (k : Nat), k ≤ 2 → ∀ {l l' : List En}, OkL l → OkL l' → Ins l l' x → (l = [] ∨ ∃ h, At s (trK k l) h) → Pre k l' → cost s (trK k l') ≤ k + 2
  | 0, _, l, l', ho, ho', hin, hl, _ => by
    rw [trK]
    refine cost_buk (x := x) ho' fun y hy hyx => ?_
    rcases (hin y).1 hy with e | e
    · exact absurd e hyx
    · rcases hl with q | ⟨h, q⟩
      · rw [q] at e; cases e.1
      · exact leaves_at 0 ho.keys q (fun q => by rw [q] at e; cases e.1) y e.1
  | k + 1, hk, l, l', ho, ho', hin, hl, hp => by
    have hleaf : ∀ y ∈ l', y ≠ x → ∃ h, At s (leafT y) h := fun y hy hyx => by
      rcases (hin y).1 hy with e | e
      · exact absurd e hyx
      · rcases hl with q | ⟨h, q⟩
        · rw [q] at e; cases e.1
        · exact leaves_at (k + 1) ho.keys q (fun q => by rw [q] at e; cases e.1) y e.1
    rw [trK]
    split
    · exact Nat.le_trans (cost_buk ho' hleaf) (by omega)
    · have hxd := dig_bound (ho'.keys x ((hin x).2 (.inl rfl))) (1 - k)
      have key : ∀ n : Nat, n ≤ 32 → costL s ((partsD l' (1 - k) n).map (trK k)) ≤ if digK x.key (1 - k) < n then k + 2 else 0 := by
        intro n
        induction n with
        | zero => intro _; unfold partsD; exact Nat.zero_le _
        | succ n ih =>
          intro hn
          have ih := ih (by omega)
          rw [partsD_succ, List.map_append]
          have happ : ∀ (a b : List Tr), costL s (a ++ b) = costL s a + costL s b := by
            intro a
            induction a with
            | nil => intro b; rw [List.nil_append, costL, Nat.zero_add]
            | cons t a iha => intro b; rw [List.cons_append, costL, costL, iha, Nat.add_assoc]
          rw [happ]
          by_cases hdx : digK x.key (1 - k) = (n : Int)
          · have hl1 : ¬ digK x.key (1 - k) < (n : Int) := by rw [hdx]; omega
            have hl2 : digK x.key (1 - k) < ((n + 1 : Nat) : Int) := by rw [hdx]; omega
            rw [if_neg hl1] at ih
            rw [if_pos hl2]
            have hlast : costL s ((if (partD l' (1 - k) n).isEmpty then [] else [partD l' (1 - k) n]).map (trK k)) ≤ k + 2 := by
              split
              · rw [List.map_nil, costL]; exact Nat.zero_le _
              · rw [List.map_cons, List.map_nil, costL, costL, Nat.add_zero]
                refine cost_ins (x := x) k (by omega) (part_ok ho (1 - k) n) (part_ok ho' (1 - k) n) (fun y => ?_) ?_ (pre_part (by omega) ho'.keys hp n)
                · rw [part_mem, part_mem, hin y]
                  constructor
                  · rintro ⟨e | e, hd⟩
                    · exact .inl e
                    · exact .inr ⟨⟨e.1, hd⟩, e.2⟩
                  · rintro (e | ⟨⟨e, hd⟩, e2⟩)
                    · exact ⟨.inl e, by rw [e]; exact hdx⟩
                    · exact ⟨.inr ⟨e, e2⟩, hd⟩
                · by_cases hem : partD l (1 - k) n = []
                  · exact .inl hem
                  · rcases hl with q | ⟨h, q⟩
                    · rw [q] at hem; exact absurd rfl hem
                    · exact .inr (part_at ho q (by omega) hem)
            omega
          · have hsame : partD l' (1 - k) n = partD l (1 - k) n := by
              refine (part_ok ho' _ _).eq (part_ok ho _ _) fun y => ?_
              rw [part_mem, part_mem, hin y]
              constructor
              · rintro ⟨e | e, hd⟩
                · rw [e] at hd; exact absurd hd hdx
                · exact ⟨e.1, hd⟩
              · rintro ⟨e, hd⟩
                exact ⟨.inr ⟨e, fun ek => hdx (by rw [← ek]; exact hd)⟩, hd⟩
            have hlast : costL s ((if (partD l' (1 - k) n).isEmpty then [] else [partD l' (1 - k) n]).map (trK k)) = 0 := by
              split
              · rw [List.map_nil, costL]
              · rename_i hem
                have hne : partD l (1 - k) n ≠ [] := fun e => hem (by rw [hsame, e]; rfl)
                rw [hsame, List.map_cons, List.map_nil, costL, costL, Nat.add_zero]
                rcases hl with q | ⟨h, q⟩
                · rw [q] at hne; exact absurd rfl hne
                · obtain ⟨h', q'⟩ := part_at ho q (by omega) hne
                  exact cost_at q'
            rw [hlast, Nat.add_zero]
            by_cases h1 : digK x.key (1 - k) < (n : Int)
            · have hl2 : digK x.key (1 - k) < ((n + 1 : Nat) : Int) := by omega
              rw [if_pos h1] at ih
              rw [if_pos hl2]; exact ih
            · rw [if_neg h1] at ih; exact Nat.le_trans ih (Nat.zero_le _)
      have hk32 := key 32 (Nat.le_refl _)
      rw [if_pos (by omega)] at hk32
      rw [cost]
      split
      · exact Nat.zero_le _
      · omega
end Go.Proofs.YtjgadggehpmdkaaDoor
namespace Go.Proofs.YtjgadggehpmdkaaDoor
theorem setX_at (f : Txs) (k : Nat) (v : List UInt8) (j : Nat) : setX f k v j = if j = k then v else f j := rfl
theorem txL_at {l : List En} (ho : OkL l) (k : Nat) (v : List UInt8) (hv : v ≠ []) : txL l k = v ↔ (⟨(k : Int), v⟩ : En) ∈ l := by
  unfold txL
  constructor
  · intro h
    cases e : getL l (k : Int) with
    | none => rw [e] at h; exact absurd h.symm hv
    | some u => rw [e] at h; exact getL_mem (show getL l (k : Int) = some v from e.trans (congrArg some h))
  · intro h
    rw [show getL l (k : Int) = some v from getL_of (x := ⟨(k : Int), v⟩) ho h]
    rfl
theorem txL_okX {l : List En} (ho : OkL l) : OkX (txL l) := fun k => by
  unfold txL
  cases e : getL l (k : Int) with
  | none => exact Nat.zero_le _
  | some u => exact (right_iffE.1 (ho.1 _ (getL_mem e))).2.2.2
theorem put_okL {l : List En} (ho : OkL l) {x : En} (hx : rightE x = true) : OkL (putE l x) :=
  entX_ok (setX_ok (txL_okX ho) _ (right_iffE.1 hx).2.2.2) 1024 (Nat.le_refl _)
theorem del_okL {l : List En} (ho : OkL l) (k : Int) : OkL (delE l k) :=
  entX_ok (setX_ok (txL_okX ho) _ (Nat.zero_le _)) 1024 (Nat.le_refl _)
theorem mem_key {l : List En} (ho : OkL l) {y : En} (hy : y ∈ l) : ∃ k : Nat, k < 1024 ∧ y.key = (k : Int) ∧ y.text ≠ [] := by
  have h := right_iffE.1 (ho.1 y hy)
  refine ⟨y.key.toNat, by omega, by omega, fun e => ?_⟩
  rw [e] at h
  exact absurd h.2.2.1 (by decide)
theorem mem_ent {f : Txs} {n : Nat} {y : En} (k : Nat) (hk : k < n) (hy : y.key = (k : Int)) (ht : y.text ≠ []) : y ∈ entX f n ↔ f k = y.text := by
  rw [entX_mem]
  obtain ⟨yk, yt⟩ := y
  have hy : yk = (k : Int) := hy
  subst hy
  constructor
  · rintro ⟨j, _, e, _⟩
    injection e with e1 e2
    have : k = j := by omega
    subst this
    exact e2.symm
  · intro h
    exact ⟨k, hk, by rw [h], by rw [h]; exact ht⟩
theorem put_mem {l : List En} (ho : OkL l) {x : En} (hx : rightE x = true) : Ins l (putE l x) x := by
  intro y
  have hxr := right_iffE.1 hx
  constructor
  · intro hy
    obtain ⟨k, hk, e, ht⟩ := mem_key (put_okL ho hx) hy
    have h := (mem_ent (n := 1024) k hk e ht).1 hy
    rw [setX_at] at h
    split at h
    · rename_i hkx
      left
      obtain ⟨yk, yt⟩ := y
      obtain ⟨xk, xt⟩ := x
      have e : yk = (k : Int) := e
      have hkx : k = xk.toNat := hkx
      have h : xt = yt := h
      have hxr : 0 ≤ xk := hxr.1
      rw [h, e, hkx]
      congr 1
      omega
    · rename_i hkx
      refine .inr ⟨?_, fun ek => hkx (by rw [← ek]; omega)⟩
      have := (txL_at ho k y.text ht).1 h
      rw [← e] at this
      exact this
  · rintro (e | ⟨hy, hn⟩)
    · rw [e]
      refine (mem_ent (n := 1024) x.key.toNat (by omega) (by omega) (fun e => ?_)).2 ?_
      · rw [e] at hxr; exact absurd hxr.2.2.1 (by decide)
      · rw [setX_at, if_pos rfl]
    · obtain ⟨k, hk, e, ht⟩ := mem_key ho hy
      refine (mem_ent (n := 1024) k hk e ht).2 ?_
      rw [setX_at, if_neg (fun h => hn (by omega))]
      refine (txL_at ho k y.text ht).2 ?_
      rw [← e]; exact hy
theorem del_mem {l : List En} (ho : OkL l) {q : Int} (hq : 0 ≤ q) (y : En) : y ∈ delE l q ↔ y ∈ l ∧ y.key ≠ q := by
  constructor
  · intro hy
    obtain ⟨k, hk, e, ht⟩ := mem_key (del_okL ho q) hy
    have h := (mem_ent (n := 1024) k hk e ht).1 hy
    rw [setX_at] at h
    split at h
    · exact absurd h.symm ht
    · rename_i hkx
      refine ⟨?_, fun ek => hkx (by omega)⟩
      have := (txL_at ho k y.text ht).1 h
      rw [← e] at this
      exact this
  · rintro ⟨hy, hn⟩
    obtain ⟨k, hk, e, ht⟩ := mem_key ho hy
    refine (mem_ent (n := 1024) k hk e ht).2 ?_
    rw [setX_at, if_neg (fun h => hn (by omega))]
    refine (txL_at ho k y.text ht).2 ?_
    rw [← e]; exact hy
theorem del_put {l : List En} (ho : OkL l) {x : En} (hx : rightE x = true) (hn : getL l x.key = none) : delE (putE l x) x.key = l := by
  have hxr := right_iffE.1 hx
  refine (del_okL (put_okL ho hx) _).eq ho fun y => ?_
  rw [del_mem (put_okL ho hx) hxr.1, put_mem ho hx]
  constructor
  · rintro ⟨e | e, h⟩
    · rw [e] at h; exact absurd rfl h
    · exact e.1
  · intro h
    have := getL_none.1 hn y h
    exact ⟨.inr ⟨h, this⟩, this⟩
theorem get_put {l : List En} (ho : OkL l) {x : En} (hx : rightE x = true) : getL (putE l x) x.key = some x.text :=
  getL_of (put_okL ho hx) ((put_mem ho hx x).2 (.inl rfl))
/- what Build comes to: the same entries -/
def DisK (l : List En) : Prop := l.Pairwise fun a b => a.key ≠ b.key
theorem dup_no : ∀ {l : List En} {f : Txs}, (∀ x ∈ l, rightE x = true) → dupF f l = false → (∀ x ∈ l, f x.key.toNat = []) ∧ DisK l
  | [], _, _, _ => ⟨fun _ h => absurd h List.not_mem_nil, List.Pairwise.nil⟩
  | x :: r, f, hr, h => by
    rw [dupF] at h
    split at h
    · rename_i e
      obtain ⟨a, b⟩ := dup_no (fun y hy => hr y (List.mem_cons_of_mem _ hy)) h
      have hxr := right_iffE.1 (hr x (by simp))
      have hxt : x.text ≠ [] := fun e => by rw [e] at hxr; exact absurd hxr.2.2.1 (by decide)
      have key : ∀ y ∈ r, y.key.toNat ≠ x.key.toNat ∧ f y.key.toNat = [] := fun y hy => by
        have := a y hy
        rw [setX_at] at this
        split at this
        · exact absurd this hxt
        · rename_i q; exact ⟨q, this⟩
      refine ⟨fun y hy => ?_, List.Pairwise.cons (fun y hy e => (key y hy).1 (by rw [e])) b⟩
      rcases List.mem_cons.1 hy with e' | e'
      · rw [e']; exact e
      · exact (key y e').2
    · cases h
theorem bld_at : ∀ (l : List En) (f : Txs) (k : Nat), (∀ x ∈ l, rightE x = true) → DisK l → l.foldl (fun f x => setX f x.key.toNat x.text) f k = (getL l (k : Int)).getD (f k)
  | [], f, k, _, _ => rfl
  | x :: r, f, k, hr, hd => by
    have hxr := right_iffE.1 (hr x (by simp))
    rw [List.foldl_cons, bld_at r _ k (fun y hy => hr y (List.mem_cons_of_mem _ hy)) (List.pairwise_cons.1 hd).2]
    rw [getL]
    split
    · rename_i e
      have hkx : k = x.key.toNat := by omega
      have : getL r (k : Int) = none := getL_none.2 fun y hy ey => (List.pairwise_cons.1 hd).1 y hy (by rw [ey]; exact e)
      rw [this]
      show setX f x.key.toNat x.text k = x.text
      rw [setX_at, if_pos hkx]
    · rename_i e
      have : setX f x.key.toNat x.text k = f k := by
        rw [setX_at, if_neg (fun h => e (by omega))]
      rw [this]
def srtE (l : List En) : List En := entX (bldF l) 1024
theorem srt_ok {l : List En} (hr : ∀ x ∈ l, rightE x = true) : OkL (srtE l) := entX_ok (bldF_ok hr) 1024 (Nat.le_refl _)
theorem getL_dis : ∀ {l : List En}, DisK l → ∀ {x : En}, x ∈ l → getL l x.key = some x.text
  | y :: r, hd, x, hx => by
    rw [getL]
    rcases List.mem_cons.1 hx with e | e
    · rw [e, if_pos rfl]
    · rw [if_neg (fun h => (List.pairwise_cons.1 hd).1 x e h)]
      exact getL_dis (List.pairwise_cons.1 hd).2 e
theorem srt_mem {l : List En} (hr : ∀ x ∈ l, rightE x = true) (hd : DisK l) (y : En) : y ∈ srtE l ↔ y ∈ l := by
  constructor
  · intro hy
    obtain ⟨k, hk, e, ht⟩ := mem_key (srt_ok hr) hy
    have h := (mem_ent (n := 1024) k hk e ht).1 hy
    unfold bldF at h
    rw [bld_at l _ k hr hd] at h
    cases hg : getL l (k : Int) with
    | none => rw [hg] at h; exact absurd h.symm ht
    | some v =>
      rw [hg] at h
      have h : v = y.text := h
      have := getL_mem hg
      rw [h, ← e] at this
      exact this
  · intro hy
    have hyr := right_iffE.1 (hr y hy)
    have ht : y.text ≠ [] := fun e => by rw [e] at hyr; exact absurd hyr.2.2.1 (by decide)
    refine (mem_ent (n := 1024) y.key.toNat (by omega) (by omega) ht).2 ?_
    unfold bldF
    rw [bld_at l _ _ hr hd, show ((y.key.toNat : Nat) : Int) = y.key by omega, getL_dis hd hy]
    rfl
theorem srt_cons {x : En} {r : List En} (hr : ∀ y ∈ x :: r, rightE y = true) (hd : DisK (x :: r)) : putE (srtE r) x = srtE (x :: r) := by
  have hr' : ∀ y ∈ r, rightE y = true := fun y hy => hr y (List.mem_cons_of_mem _ hy)
  have hd' := List.pairwise_cons.1 hd
  refine (put_okL (srt_ok hr') (hr x (by simp))).eq (srt_ok hr) fun y => ?_
  rw [put_mem (srt_ok hr') (hr x (by simp)), srt_mem hr hd, srt_mem hr' hd'.2, List.mem_cons]
  constructor
  · rintro (e | e)
    · exact .inl e
    · exact .inr e.1
  · rintro (e | e)
    · exact .inl e
    · exact .inr ⟨e, fun q => hd'.1 y e q.symm⟩
theorem srt_len {l : List En} (hr : ∀ x ∈ l, rightE x = true) (hd : DisK l) : (srtE l).length = l.length := by
  have hn : l.Nodup := hd.imp fun {a b} h e => h (by rw [e])
  exact ((List.perm_ext_iff_of_nodup (srt_ok hr).nodup hn).2 fun y => srt_mem hr hd y).length_eq
theorem srt_nil : srtE [] = [] := by
  have h : ∀ n : Nat, entX (fun _ => []) n = [] := by
    intro n
    cases e : entX (fun _ => ([] : List UInt8)) n with
    | nil => rfl
    | cons y r =>
      have : y ∈ entX (fun _ => ([] : List UInt8)) n := by rw [e]; simp
      obtain ⟨_, _, _, h⟩ := (entX_mem _ _ _).1 this
      exact absurd rfl h
  exact h 1024
end Go.Proofs.YtjgadggehpmdkaaDoor
