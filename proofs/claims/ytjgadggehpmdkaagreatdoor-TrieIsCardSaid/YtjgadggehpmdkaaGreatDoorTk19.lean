/- Texts joined: TqM, TqN, TqO, TpP, TpQ, TpT, TsA. -/
import Derived.Test.YtjgadggehpmdkaaGreatDoorTk18
import Derived.Test.YtjgadggehpmdkaaGreatDoorTk07
set_option linter.all false
namespace Go.Proofs.YtjgadggehpmdkaaGreatDoor
open Go.RowKit Go.Shelf
theorem lf9_same {w w1 : World} {B a room : Nat} {s : Sh} {K : Nat → Prop} (h : On9 w B a room s K) (hb : Below w.heap.size w w1) : Lf9 w B a room s K w1 (fun g => K g ∨ (w.heap.size ≤ g ∧ g < w1.heap.size)) :=
  ⟨h.below hb, fun g hg => .inl hg, Kept.of_below hb, hb.mono h.base⟩
theorem lf9_trans {w w1 w2 : World} {B a room : Nat} {s s' : Sh} {K K2 : Nat → Prop} (h : On9 w B a room s K) (hb : Below w.heap.size w w1) (hl : Lf9 w1 B a room s' (fun g => K g ∨ (w.heap.size ≤ g ∧ g < w1.heap.size)) w2 K2) : Lf9 w B a room s' K w2 K2 :=
  ⟨hl.1, fun g hg => hl.2.1 g (.inl hg), (Kept.of_below hb).trans ⟨hl.2.2.1.size, fun g hg hlt => hl.2.2.1.block g (.inl hg) hlt⟩, (hb.mono h.base).trans hl.2.2.2⟩
noncomputable def pPutR (room : Nat) (s : Sh) (h : Int) (x : En) : Sh × Int × Nat := match hasT s h with
  | some l => if rightE x = true then putT room s (putE l x) else (s, 0, 1)
  | none => (s, 0, 1)
theorem pPutR_none {room : Nat} {s : Sh} {h : Int} {x : En} (e : hasT s h = none) : pPutR room s h x = (s, 0, 1) := by unfold pPutR; rw [e]
theorem pPutR_no {room : Nat} {s : Sh} {h : Int} {x : En} (e : rightE x ≠ true) : pPutR room s h x = (s, 0, 1) := by
  unfold pPutR
  cases hasT s h with
  | none => rfl
  | some l => exact if_neg e
theorem pPutR_yes {room : Nat} {s : Sh} {h : Int} {x : En} {f : Txs} (e : hasT s h = some (entX f 1024)) (hok : OkX f) (hr : rightE x = true) : pPutR room s h x = putT room s (entX (setX f x.key.toNat x.text) 1024) := by
  unfold pPutR
  rw [e]
  show (if rightE x = true then putT room s (putE (entX f 1024) x) else (s, 0, 1)) = _
  rw [if_pos hr]
  unfold putE
  rw [set_ent hok]
set_option maxHeartbeats 8000000 in
set_option maxRecDepth 10000 in
theorem ptrput_any {w : World} {B a room : Nat} {s : Sh} {K : Nat → Prop} (hA : On9 w B a room s K) (h : Int) (hh : -9223372036854775808 ≤ h ∧ h ≤ 9223372036854775807) (x : En) (hxl : x.text.length ≤ maxLen) :
    Calls Tryz.prog 26 #[.pointer (some ⟨a, 0, none⟩), .int .i64 h, enV x] w fun e w' => TPutQ w B a room s K (pPutR room s h x) e w' := by
  have hb0 : Below w.heap.size w (w.alloc (.cells #[.int .i64 x.key, .string ⟨x.text.toArray⟩] 55)) := (Below.refl _ _).alloc (Nat.le_refl _) _
  have HR := Lib.hid (pread_any (hA.below hb0) h hh)
  have HW := Lib.hid (fun w' => pwrong_any x w' hxl)
  have HA := Lib.hid hA
  have HB0 := Lib.hid hb0
  have a0 : (w.alloc (.cells #[.int .i64 x.key, .string ⟨x.text.toArray⟩] 55)).cell? ⟨w.heap.size, 0, none⟩ = some (.int .i64 x.key) := by rw [Lib.cell_of_heap (heap_alloc_new w _)]; rfl
  have a1 : (w.alloc (.cells #[.int .i64 x.key, .string ⟨x.text.toArray⟩] 55)).cell? ⟨w.heap.size, 1, none⟩ = some (.string ⟨x.text.toArray⟩) := by rw [Lib.cell_of_heap (heap_alloc_new w _)]; rfl
  have HA0 := Lib.hid a0
  have HA1 := Lib.hid a1
  have hno := @pPutR_no room s h x
  have HNo := Lib.hid hno
  have HNn := Lib.hid (@pPutR_none room s h x)
  have HYes := Lib.hid (fun (f : Txs) e ho hr => pPutR_yes (room := room) (s := s) (h := h) (x := x) (f := f) e ho hr)
  clear hA hb0 a0 a1 hno
  generalize pPutR room s h x = PR at *
  unfold enV
  go_enter Tryz.func26, Tryz.ntmps26
  go_wp2_with fail
  refine HR.out.mono ?_; rintro e w1 ⟨f, b, rfl, hok, hhas, hb1⟩
  have HS := Lib.hid hhas
  have HOk := Lib.hid hok
  have hb01 := HB0.out.trans (hb1.mono HB0.out.size)
  have hbt : Below w1.heap.size w1 (w1.alloc (.cells (txC f) 90)) := (Below.refl _ _).alloc (Nat.le_refl _) _
  have HBt := Lib.hid (hb01.trans (hbt.mono hb01.size))
  have k0 := keep_cell hbt (keep_cell hb1 HA0.out)
  have k1 := keep_cell hbt (keep_cell hb1 HA1.out)
  have HT : Hid (TX (w1.alloc (.cells (txC f) 90)) w1.heap.size f) := Lib.hid (heap_alloc_new w1 _)
  have hX : w.heap.size < w1.heap.size := by have := hb1.size; simp at this; omega
  have hXt : w.heap.size < (w1.alloc (.cells (txC f) 90)).heap.size := by simp; omega
  clear hhas hb1 hok hb01 hbt HA0 HA1 HR
  cases b with
  | false =>
    have HP := Lib.hid (HNn.out (HS.out.trans (if_neg (by decide))))
    go_wp2_with (refine wpList_store_row rfl 90 _ _ rfl w1.heap.size (txC f) rfl rfl 90 _ (heap_alloc_new w1 _) (by rw [txC_size]; exact texts_info) (by rw [txC_size]; first | exact hold_st (w := w1) | rfl) (txC_one f) ?_; rw [World.setRow_alloc_new])
    go_ret2
    exact ⟨_, by rw [HP.out]; rfl, by rw [HP.out]; exact lf9_same HA.out HBt.out⟩
  | true =>
    have HS2 := Lib.hid (HS.out.trans (if_pos rfl))
    clear HS
    by_cases hri : rightE x = true
    · rw [hri] at HW
      have hrb := (right_iffE.1 hri).1
      have hrc := (right_iffE.1 hri).2.1
      have hrl := (right_iffE.1 hri).2.2.2
      have HP := Lib.hid (HYes.out _ HS2.out HOk.out hri)
      have hOk2 := setX_ok HOk.out x.key.toNat hrl
      obtain ⟨kx, tx⟩ := x
      change 0 ≤ kx at hrb
      change kx ≤ 1023 at hrc
      obtain ⟨j, rfl⟩ : ∃ j : Nat, kx = (j : Int) := ⟨kx.toNat, by omega⟩
      have hj : j < 1024 := by omega
      have HP2 : Hid (PR = putT room s (entX (setX f j tx) 1024)) := Lib.hid HP.out
      have HOk3 : Hid (OkX (setX f j tx)) := Lib.hid hOk2
      clear hri hrl HP HYes HNo HNn hOk2 HOk
      go_wp2_with (refine wpList_store_row rfl 90 _ _ rfl w1.heap.size (txC f) rfl rfl 90 _ (heap_alloc_new w1 _) (by rw [txC_size]; exact texts_info) (by rw [txC_size]; first | exact hold_st (w := w1) | rfl) (txC_one f) ?_; rw [World.setRow_alloc_new])
      generalize (w1.alloc (.cells (txC f) 90)) = Wt at *
      refine (HW.out _).mono ?_; rintro e w3 ⟨rfl, hb3⟩
      have hT3 := HT.out.below hb3
      have c0 := keep_cell hb3 k0
      have c1 := keep_cell hb3 k1
      have t0 := hT3.cell hj
      have t1 := hT3.frozen j
      have hX3 : w.heap.size < w3.heap.size := Lib.lt_of_cell c0
      have hT4 := hT3.set hj tx
      have zT := hT3.lt
      have HT4 := Lib.hid hT4
      have hb4 : Below w.heap.size w (w3.setCell ⟨w1.heap.size, j, none⟩ (.string ⟨tx.toArray⟩)) := (HBt.out.trans (hb3.mono HBt.out.size)).setCell (by show w.heap.size ≤ w1.heap.size; omega) _
      have HC := Lib.hid (ptput_any (HA.out.below hb4) HT4.out HOk3.out)
      have HB4 := Lib.hid hb4
      clear hT3 hT4 hb4 hb3 HT k0 k1
      go_wp2_with fail
      refine HC.out.mono ?_; rintro e w5 ⟨K5, rfl, hlf⟩
      have HLf := Lib.hid (lf9_trans HA.out HB4.out hlf)
      rw [← HP2.out] at HLf
      clear hlf HC
      go_wp2_with fail
      go_ret2
      refine ⟨K5, ?_, HLf.out⟩
      rw [HP2.out]; rfl
    · rw [Bool.eq_false_iff.2 hri] at HW
      have HP := Lib.hid (HNo.out hri)
      clear hri HYes HNo HNn
      go_wp2_with (refine wpList_store_row rfl 90 _ _ rfl w1.heap.size (txC f) rfl rfl 90 _ (heap_alloc_new w1 _) (by rw [txC_size]; exact texts_info) (by rw [txC_size]; first | exact hold_st (w := w1) | rfl) (txC_one f) ?_; rw [World.setRow_alloc_new])
      generalize (w1.alloc (.cells (txC f) 90)) = Wt at *
      refine (HW.out _).mono ?_; rintro e w3 ⟨rfl, hb3⟩
      have HB3 := Lib.hid (HBt.out.trans (hb3.mono HBt.out.size))
      clear hb3
      go_wp2_with fail
      go_ret2
      exact ⟨_, by rw [HP.out]; rfl, by rw [HP.out]; exact lf9_same HA.out HB3.out⟩
end Go.Proofs.YtjgadggehpmdkaaGreatDoor
namespace Go.Proofs.YtjgadggehpmdkaaGreatDoor
open Go.RowKit Go.Shelf
noncomputable def pDelR (room : Nat) (s : Sh) (h k : Int) : Sh × Int × Nat := match hasT s h with
  | some l => if 0 ≤ k ∧ k ≤ 1023 then (match getL l k with
    | none => (s, 0, 4)
    | some _ => putT room s (delE l k)) else (s, 0, 1)
  | none => (s, 0, 1)
theorem pDelR_none {room : Nat} {s : Sh} {h k : Int} (e : hasT s h = none) : pDelR room s h k = (s, 0, 1) := by unfold pDelR; rw [e]
theorem pDelR_no {room : Nat} {s : Sh} {h k : Int} (e : ¬ (0 ≤ k ∧ k ≤ 1023)) : pDelR room s h k = (s, 0, 1) := by
  unfold pDelR
  cases hasT s h with
  | none => rfl
  | some l => exact if_neg e
theorem pDelR_lack {room : Nat} {s : Sh} {h k : Int} {l : List En} (e : hasT s h = some l) (hk : 0 ≤ k ∧ k ≤ 1023) (hg : getL l k = none) : pDelR room s h k = (s, 0, 4) := by
  unfold pDelR
  rw [e]
  show (if 0 ≤ k ∧ k ≤ 1023 then (match getL l k with | none => (s, 0, 4) | some _ => putT room s (delE l k)) else (s, 0, 1)) = _
  rw [if_pos hk, hg]
theorem pDelR_some {room : Nat} {s : Sh} {h k : Int} {l : List En} {v : List UInt8} (e : hasT s h = some l) (hk : 0 ≤ k ∧ k ≤ 1023) (hg : getL l k = some v) : pDelR room s h k = putT room s (delE l k) := by
  unfold pDelR
  rw [e]
  show (if 0 ≤ k ∧ k ≤ 1023 then (match getL l k with | none => (s, 0, 4) | some _ => putT room s (delE l k)) else (s, 0, 1)) = _
  rw [if_pos hk, hg]
theorem del_ent {f : Txs} (hok : OkX f) (j : Nat) : delE (entX f 1024) (j : Int) = entX (setX f j []) 1024 := by
  unfold delE
  rw [show ((j : Int)).toNat = j by omega, set_ent hok]
set_option maxHeartbeats 8000000 in
set_option maxRecDepth 10000 in
theorem ptrdel_any {w : World} {B a room : Nat} {s : Sh} {K : Nat → Prop} (hA : On9 w B a room s K) (h : Int) (hh : -9223372036854775808 ≤ h ∧ h ≤ 9223372036854775807) (k : Int) :
    Calls Tryz.prog 28 #[.pointer (some ⟨a, 0, none⟩), .int .i64 h, .int .i64 k] w fun e w' => TPutQ w B a room s K (pDelR room s h k) e w' := by
  have HR := Lib.hid (pread_any hA h hh)
  have HH := Lib.hid (fun w => phash_any k w)
  have HA := Lib.hid hA
  have HNn := Lib.hid (fun e => pDelR_none (room := room) (s := s) (h := h) (k := k) e)
  have HNo := Lib.hid (fun e => pDelR_no (room := room) (s := s) (h := h) (k := k) e)
  have HLk := Lib.hid (fun l e hk hg => pDelR_lack (room := room) (s := s) (h := h) (k := k) (l := l) e hk hg)
  have HSm := Lib.hid (fun l v e hk hg => pDelR_some (room := room) (s := s) (h := h) (k := k) (l := l) (v := v) e hk hg)
  clear hA
  generalize pDelR room s h k = PR at *
  go_enter Tryz.func28, Tryz.ntmps28
  go_wp2_with fail
  refine HR.out.mono ?_; rintro e w1 ⟨f, b, rfl, hok, hhas, hb1⟩
  have HS := Lib.hid hhas
  have HOk := Lib.hid hok
  have hbt : Below w1.heap.size w1 (w1.alloc (.cells (txC f) 90)) := (Below.refl _ _).alloc (Nat.le_refl _) _
  have HBt := Lib.hid (hb1.trans (hbt.mono hb1.size))
  have HT : Hid (TX (w1.alloc (.cells (txC f) 90)) w1.heap.size f) := Lib.hid (heap_alloc_new w1 _)
  have hX : w.heap.size ≤ w1.heap.size := hb1.size
  clear hhas hb1 hok hbt HR
  cases b with
  | false =>
    have HP := Lib.hid (HNn.out (HS.out.trans (if_neg (by decide))))
    go_wp2_with (refine wpList_store_row rfl 90 _ _ rfl w1.heap.size (txC f) rfl rfl 90 _ (heap_alloc_new w1 _) (by rw [txC_size]; exact texts_info) (by rw [txC_size]; first | exact hold_st (w := w1) | rfl) (txC_one f) ?_; rw [World.setRow_alloc_new])
    go_ret2
    exact ⟨_, by rw [HP.out]; rfl, by rw [HP.out]; exact lf9_same HA.out HBt.out⟩
  | true =>
    have HS2 := Lib.hid (HS.out.trans (if_pos rfl))
    clear HS
    by_cases hk : 0 ≤ k ∧ k ≤ 1023
    · have d1 : decide (hashK k < 0) = false := decide_eq_false (by have := hash_bound hk; omega)
      obtain ⟨j, rfl⟩ : ∃ j : Nat, k = (j : Int) := ⟨k.toNat, by omega⟩
      have hj : j < 1024 := by omega
      have HG := Lib.hid (getX HOk.out (Nat.le_refl _) hj)
      have hJ : (j : Int) < 1024 := by omega
      have hJ0 : (0 : Int) ≤ (j : Int) := by omega
      have HK := Lib.hid hk
      have t0 := HT.out.cell hj
      have t1 := HT.out.frozen j
      have zT := HT.out.lt
      have hT4 := HT.out.set hj []
      have HT4 := Lib.hid hT4
      have hb4 : Below w.heap.size w ((w1.alloc (.cells (txC f) 90)).setCell ⟨w1.heap.size, j, none⟩ (.string ⟨([] : List UInt8).toArray⟩)) := HBt.out.setCell hX _
      have HB4 := Lib.hid hb4
      have HOk4 := Lib.hid (setX_ok HOk.out j (v := []) (Nat.zero_le _))
      have HC := Lib.hid (ptput_any (HA.out.below hb4) HT4.out HOk4.out)
      have HDe := Lib.hid (del_ent HOk.out j)
      generalize hashK (j : Int) = H at *
      clear hk hT4 hb4
      by_cases hV : f j = []
      · have HP := Lib.hid (HLk.out _ HS2.out HK.out (HG.out.trans (if_pos hV)))
        rw [hV] at t0
        clear hV HT4 HC HB4 t1
        go_wp2_with (refine wpList_store_row rfl 90 _ _ rfl w1.heap.size (txC f) rfl rfl 90 _ (heap_alloc_new w1 _) (by rw [txC_size]; exact texts_info) (by rw [txC_size]; first | exact hold_st (w := w1) | rfl) (txC_one f) ?_; rw [World.setRow_alloc_new])
        refine (HH.out _).mono ?_; rintro e w2 ⟨rfl, rfl⟩
        go_wp2_with fail
        go_ret2
        exact ⟨_, by rw [HP.out]; rfl, by rw [HP.out]; exact lf9_same HA.out HBt.out⟩
      · have HP := Lib.hid ((HSm.out _ _ HS2.out HK.out (HG.out.trans (if_neg hV))).trans (by rw [HDe.out]))
        have hVe : (f j).isEmpty = false := by cases e : f j with | nil => exact absurd e hV | cons _ _ => rfl
        clear hV
        generalize f j = V at *
        go_wp2_with (refine wpList_store_row rfl 90 _ _ rfl w1.heap.size (txC f) rfl rfl 90 _ (heap_alloc_new w1 _) (by rw [txC_size]; exact texts_info) (by rw [txC_size]; first | exact hold_st (w := w1) | rfl) (txC_one f) ?_; rw [World.setRow_alloc_new])
        generalize (w1.alloc (.cells (txC f) 90)) = Wt at *
        refine (HH.out _).mono ?_; rintro e w2 ⟨rfl, rfl⟩
        go_wp2_with fail
        refine HC.out.mono ?_; rintro e w5 ⟨K5, rfl, hlf⟩
        have HLf := Lib.hid (lf9_trans HA.out HB4.out hlf)
        rw [← HP.out] at HLf
        clear hlf HC
        go_wp2_with fail
        go_ret2
        refine ⟨K5, ?_, HLf.out⟩
        rw [HP.out]; rfl
    · have d1 : decide (hashK k < 0) = true := by unfold hashK; rw [if_neg hk]; rfl
      have HP := Lib.hid (HNo.out hk)
      generalize hashK k = H at *
      clear hk
      go_wp2_with (refine wpList_store_row rfl 90 _ _ rfl w1.heap.size (txC f) rfl rfl 90 _ (heap_alloc_new w1 _) (by rw [txC_size]; exact texts_info) (by rw [txC_size]; first | exact hold_st (w := w1) | rfl) (txC_one f) ?_; rw [World.setRow_alloc_new])
      refine (HH.out _).mono ?_; rintro e w2 ⟨rfl, rfl⟩
      go_wp2_with fail
      go_ret2
      exact ⟨_, by rw [HP.out]; rfl, by rw [HP.out]; exact lf9_same HA.out HBt.out⟩
end Go.Proofs.YtjgadggehpmdkaaGreatDoor
namespace Go.Proofs.YtjgadggehpmdkaaGreatDoor
open Go.RowKit Go.Shelf
def bldF (l : List En) : Txs := l.foldl (fun f x => setX f x.key.toNat x.text) (fun _ => [])
def dupF : Txs → List En → Bool
  | _, [] => false
  | f, x :: r => if f x.key.toNat = [] then dupF (setX f x.key.toNat x.text) r else true
def pBldR (room : Nat) (s : Sh) (l : List En) : Sh × Int × Nat :=
  if (l.any fun x => !rightE x) = true then (s, 0, 1) else if dupF (fun _ => []) l = true then (s, 0, 5) else putT room s (entX (bldF l) 1024)
theorem bldF_ok {l : List En} (h : ∀ x ∈ l, rightE x = true) : OkX (bldF l) := by
  unfold bldF
  have key : ∀ (l : List En) (f : Txs), OkX f → (∀ x ∈ l, rightE x = true) → OkX (l.foldl (fun f x => setX f x.key.toNat x.text) f) := by
    intro l
    induction l with
    | nil => intro f h _; exact h
    | cons x l ih =>
      intro f hf h
      rw [List.foldl_cons]
      exact ih _ (setX_ok hf _ (right_iffE.1 (h x (by simp))).2.2.2) fun y hy => h y (List.mem_cons_of_mem _ hy)
  exact key l _ (fun k => Nat.zero_le _) h
set_option maxHeartbeats 16000000 in
set_option maxRecDepth 10000 in
theorem ptbuild_any {w : World} {B a room : Nat} {s : Sh} {K : Nat → Prop} (hA : On9 w B a room s K) (l : List En) (A : Option Addr) (ca : Nat) {Q : Nat → Prop} (hl : RowE w Q A l) (hll : l.length ≤ 1000000) (hlt : ∀ x ∈ l, x.text.length ≤ maxLen) :
    Calls Tryz.prog 30 #[.pointer (some ⟨a, 0, none⟩), .slice A l.length ca] w fun e w' => TPutQ w B a room s K (pBldR room s l) e w' := by
  have HCo := Lib.hid (pcontains0_any (F := 47) (p := fun x => !rightE x) (ca := ca) (enters_of Tryz.func47 (by kernel_rfl) rfl) hl hll (fun x hx w' _ => pwrong_any x w' (hlt x hx)))
  have HA := Lib.hid hA
  have HL := Lib.hid hl
  have HP : Hid (pBldR room s l = if (l.any fun x => !rightE x) = true then (s, 0, 1) else if dupF (fun _ => []) l = true then (s, 0, 5) else putT room s (entX (bldF l) 1024)) := Lib.hid rfl
  clear hA hl hlt
  generalize pBldR room s l = PR at *
  cases hany : (l.any fun x => !rightE x) with
  | true =>
    rw [hany] at HCo HP
    have HP2 : Hid (PR = (s, 0, 1)) := Lib.hid (HP.out.trans (if_pos rfl))
    clear hany
    go_enter Tryz.func30, Tryz.ntmps30
    go_wp2_with fail
    refine HCo.out.mono ?_; rintro e w1 ⟨rfl, hb1⟩
    have HB1 := Lib.hid hb1
    clear hb1
    go_wp2_with fail
    go_ret2
    exact ⟨_, by rw [HP2.out]; rfl, by rw [HP2.out]; exact lf9_same HA.out HB1.out⟩
  | false =>
    rw [hany] at HCo HP
    have HP2 : Hid (PR = if dupF (fun _ => []) l = true then (s, 0, 5) else putT room s (entX (bldF l) 1024)) := Lib.hid (HP.out.trans (if_neg (by decide)))
    have HAll : Hid (∀ x ∈ l, rightE x = true) := Lib.hid fun x hx => by
      have := List.any_eq_false.1 hany x hx
      simpa using this
    clear hany HP
    go_enter Tryz.func30, Tryz.ntmps30
    go_wp2_with fail
    refine HCo.out.mono ?_; rintro e w1 ⟨rfl, hb1⟩
    have hbt : Below w1.heap.size w1 (w1.alloc (.cells Tryz.zeroCells90 90)) := (Below.refl _ _).alloc (Nat.le_refl _) _
    have HBt := Lib.hid (hb1.trans (hbt.mono hb1.size))
    have hT0 : TX (w1.alloc (.cells Tryz.zeroCells90 90)) w1.heap.size (fun _ => []) := by
      have := heap_alloc_new w1 (.cells Tryz.zeroCells90 90)
      rw [texts_zero] at this
      exact this
    have HT0 := Lib.hid hT0
    have hX : w.heap.size ≤ w1.heap.size := hb1.size
    clear hb1 hbt hT0 HCo
    go_wp2_with fail
    go_loopw [17] (fun vi wr => ∃ i : Nat, i ≤ l.length ∧ vi = .int .i64 (i : Int) ∧ Hid (TX wr w1.heap.size (bldF (l.take i))) ∧ Hid (dupF (fun _ => []) l = dupF (bldF (l.take i)) (l.drop i)) ∧ Hid (Below w.heap.size w wr)) (fun vi _ => l.length - (RowKit.intOf vi).toNat)
    case atStart => exact ⟨0, Nat.zero_le _, rfl, HT0, Lib.hid (by rw [List.take_zero, List.drop_zero]; rfl), HBt⟩
    case round =>
      obtain ⟨i, hi, rfl, HT, HD, HB⟩ := hrel
      by_cases hlt : i < l.length
      · obtain ⟨x, hx⟩ : ∃ x, l[i]? = some x := ⟨_, List.getElem?_eq_getElem hlt⟩
        obtain ⟨g, o, rfl, _, hgl, hat⟩ := HL.out.at hlt
        obtain ⟨q0, q1⟩ := hat.two hx
        have k0 := keep_cell HB.out q0
        have k1 := keep_cell HB.out q1
        have hri := right_iffE.1 (HAll.out x (List.mem_of_getElem? hx))
        have hdr : l.drop i = x :: l.drop (i + 1) := by
          rw [List.drop_eq_getElem_cons hlt, (List.getElem?_eq_some_iff.1 hx).2]
        have hbs : bldF (l.take (i + 1)) = setX (bldF (l.take i)) x.key.toNat x.text := by
          unfold bldF
          rw [List.take_add_one, hx, List.foldl_append]; rfl
        have HBs := Lib.hid hbs
        have hdd : dupF (fun _ => []) l = if bldF (l.take i) x.key.toNat = [] then dupF (setX (bldF (l.take i)) x.key.toNat x.text) (l.drop (i + 1)) else true := by rw [HD.out, hdr, dupF]
        have HDd := Lib.hid hdd
        have hkI : (i : Int) < (l.length : Int) := by omega
        obtain ⟨kx, tx⟩ := x
        have hrb : 0 ≤ kx := hri.1
        have hrc : kx ≤ 1023 := hri.2.1
        obtain ⟨j, rfl⟩ : ∃ j : Nat, kx = (j : Int) := ⟨kx.toNat, by omega⟩
        have hj : j < 1024 := by omega
        have hba : Below wr.heap.size wr (wr.alloc (.cells #[.int .i64 (j : Int), .string ⟨tx.toArray⟩] 55)) := (Below.refl _ _).alloc (Nat.le_refl _) _
        have hT1 := HT.out.below hba
        have t0 := hT1.cell hj
        have t1 := hT1.frozen j
        have zT := hT1.lt
        have HB1 := Lib.hid (HB.out.trans (hba.mono HB.out.size))
        have hT2 := hT1.set hj tx
        have HT2 : Hid (TX ((wr.alloc (.cells #[.int .i64 (j : Int), .string ⟨tx.toArray⟩] 55)).setCell ⟨w1.heap.size, j, none⟩ (.string ⟨tx.toArray⟩)) w1.heap.size (bldF (l.take (i + 1)))) := Lib.hid (by rw [HBs.out]; exact hT2)
        have HB2 := Lib.hid (HB1.out.setCell (p := ⟨w1.heap.size, j, none⟩) hX (.string ⟨tx.toArray⟩))
        have hDn : bldF (l.take i) j = [] → dupF (fun _ => []) l = dupF (bldF (l.take (i + 1))) (l.drop (i + 1)) := fun e => by
          rw [HBs.out]
          exact HDd.out.trans (if_pos e)
        have hDy : ¬ bldF (l.take i) j = [] → dupF (fun _ => []) l = true := fun e => HDd.out.trans (if_neg e)
        have HDn := Lib.hid hDn
        have HDy := Lib.hid hDy
        clear hat q0 q1 hx hri hdr hbs hdd hba hT1 hT2 hDn hDy hrb hrc HT HD
        by_cases hV : bldF (l.take i) j = []
        · have HD2 := Lib.hid (HDn.out hV)
          rw [hV] at t0
          clear hV HDn HDy
          go_wp2_with fail
          go_roundw
          case rel => exact ⟨i + 1, by omega, by go_num, HT2, HD2, HB2⟩
          case measure => simp [RowKit.intOf]; omega
        · have HP3 := Lib.hid (HP2.out.trans (if_pos (HDy.out hV)))
          have hVe : (bldF (l.take i) j).isEmpty = false := by cases e : bldF (l.take i) j with | nil => exact absurd e hV | cons _ _ => rfl
          clear hV HDn HDy HDd HBs HT2 HB2
          generalize bldF (l.take i) j = V at *
          go_wp2_with fail
          go_ret2
          exact ⟨_, by rw [HP3.out]; rfl, by rw [HP3.out]; exact lf9_same HA.out HB1.out⟩
      · have hii : i = l.length := by omega
        subst hii
        have hT := HT.out
        have hD := HD.out
        rw [List.take_length] at hT hD
        rw [List.drop_length, dupF] at hD
        have HP3 : Hid (PR = putT room s (entX (bldF l) 1024)) := Lib.hid (by rw [HP2.out, hD]; exact if_neg (by decide))
        have HC := Lib.hid (ptput_any (HA.out.below HB.out) hT (bldF_ok HAll.out))
        clear hT hD
        go_wp2_with fail
        refine HC.out.mono ?_; rintro e w5 ⟨K5, rfl, hlf⟩
        have HLf := Lib.hid (lf9_trans HA.out HB.out hlf)
        rw [← HP3.out] at HLf
        clear hlf HC
        go_wp2_with fail
        go_ret2
        refine ⟨K5, ?_, HLf.out⟩
        rw [HP3.out]; rfl
end Go.Proofs.YtjgadggehpmdkaaGreatDoor
namespace Go.Proofs.YtjgadggehpmdkaaGreatDoor
theorem putT_good {room : Nat} {s : Sh} (hi : Inv room s) {l : List En} (ho : OkL l) (hne : l ≠ []) (hr : cntS s + cost s (trK 2 l) ≤ room) :
    (putT room s l).2.2 = 0 ∧ IsT (putT room s l).1 (putT room s l).2.1 l ∧ Inv room (putT room s l).1 ∧ Up s (putT room s l).1 ∧ cntS (putT room s l).1 ≤ cntS s + cost s (trK 2 l) ∧ cntS s ≤ cntS (putT room s l).1 := by
  have hN : nodesL l = fl (trK 2 l) [] := by unfold nodesL; rw [if_neg hne]
  obtain ⟨s', c, p1, p2, p3, p4, p5⟩ := put_tree (room := room) (s0 := s) (trK 2 l) [] (fl (trK 2 l) []) s [] hi (Up.refl _) (fun h hh => by cases hh) rfl rfl hr
  obtain ⟨h, b, q1, q2, q3, q4⟩ := at_put (trK 2 l) [] s s' [] c (fl (trK 2 l) []) rfl rfl p1
  have hw := fl_right s (trK 2 l) [] (fl (trK 2 l) []) rfl
  have hP : putA room s (nodesL l) = (s', c, 0) := by
    rw [hN]
    exact put_good hw p1
  have hc : c ≠ [] := fun e => by rw [e] at q3; cases q3
  have hl : c.getLastD 0 = h := by rw [List.getLastD_eq_getLast?, q3]; rfl
  unfold putT
  rw [hP]
  show (if c = [] then 0 else 0) = 0 ∧ IsT s' (c.getLastD 0) l ∧ _
  rw [hl]
  exact ⟨by split <;> rfl, ⟨ho, .inr ⟨hne, q4⟩⟩, p3, p4, p2, cnt_up p1⟩
def Ins (l l' : List En) (x : En) : Prop := ∀ y, y ∈ l' ↔ y = x ∨ (y ∈ l ∧ y.key ≠ x.key)
end Go.Proofs.YtjgadggehpmdkaaGreatDoor
namespace Go.Proofs.YtjgadggehpmdkaaGreatDoor
theorem setX_at (f : Txs) (k : Nat) (v : List UInt8) (j : Nat) : setX f k v j = if j = k then v else f j := rfl
theorem txL_at {l : List En} (ho : OkL l) (k : Nat) (v : List UInt8) (hv : v ≠ []) : txL l k = v ↔ (⟨(k : Int), v⟩ : En) ∈ l := by
  unfold txL
  constructor
  · intro h
    cases e : getL l (k : Int) with
    | none => rw [e] at h; exact absurd h.symm hv
    | some u => rw [e] at h; exact getL_mem (show getL l (k : Int) = some v from e.trans (congrArg some h))
  · intro h
    rw [show getL l (k : Int) = some v from getL_of (x := ⟨(k : Int), v⟩) ho h]
    rfl
theorem txL_okX {l : List En} (ho : OkL l) : OkX (txL l) := fun k => by
  unfold txL
  cases e : getL l (k : Int) with
  | none => exact Nat.zero_le _
  | some u => exact (right_iffE.1 (ho.1 _ (getL_mem e))).2.2.2
theorem put_okL {l : List En} (ho : OkL l) {x : En} (hx : rightE x = true) : OkL (putE l x) :=
  entX_ok (setX_ok (txL_okX ho) _ (right_iffE.1 hx).2.2.2) 1024 (Nat.le_refl _)
theorem del_okL {l : List En} (ho : OkL l) (k : Int) : OkL (delE l k) :=
  entX_ok (setX_ok (txL_okX ho) _ (Nat.zero_le _)) 1024 (Nat.le_refl _)
theorem mem_key {l : List En} (ho : OkL l) {y : En} (hy : y ∈ l) : ∃ k : Nat, k < 1024 ∧ y.key = (k : Int) ∧ y.text ≠ [] := by
  have h := right_iffE.1 (ho.1 y hy)
  refine ⟨y.key.toNat, by omega, by omega, fun e => ?_⟩
  rw [e] at h
  exact absurd h.2.2.1 (by decide)
theorem mem_ent {f : Txs} {n : Nat} {y : En} (k : Nat) (hk : k < n) (hy : y.key = (k : Int)) (ht : y.text ≠ []) : y ∈ entX f n ↔ f k = y.text := by
  rw [entX_mem]
  obtain ⟨yk, yt⟩ := y
  have hy : yk = (k : Int) := hy
  subst hy
  constructor
  · rintro ⟨j, _, e, _⟩
    injection e with e1 e2
    have : k = j := by omega
    subst this
    exact e2.symm
  · intro h
    exact ⟨k, hk, by rw [h], by rw [h]; exact ht⟩
theorem put_mem {l : List En} (ho : OkL l) {x : En} (hx : rightE x = true) : Ins l (putE l x) x := by
  intro y
  have hxr := right_iffE.1 hx
  constructor
  · intro hy
    obtain ⟨k, hk, e, ht⟩ := mem_key (put_okL ho hx) hy
    have h := (mem_ent (n := 1024) k hk e ht).1 hy
    rw [setX_at] at h
    split at h
    · rename_i hkx
      left
      obtain ⟨yk, yt⟩ := y
      obtain ⟨xk, xt⟩ := x
      have e : yk = (k : Int) := e
      have hkx : k = xk.toNat := hkx
      have h : xt = yt := h
      have hxr : 0 ≤ xk := hxr.1
      rw [h, e, hkx]
      congr 1
      omega
    · rename_i hkx
      refine .inr ⟨?_, fun ek => hkx (by rw [← ek]; omega)⟩
      have := (txL_at ho k y.text ht).1 h
      rw [← e] at this
      exact this
  · rintro (e | ⟨hy, hn⟩)
    · rw [e]
      refine (mem_ent (n := 1024) x.key.toNat (by omega) (by omega) (fun e => ?_)).2 ?_
      · rw [e] at hxr; exact absurd hxr.2.2.1 (by decide)
      · rw [setX_at, if_pos rfl]
    · obtain ⟨k, hk, e, ht⟩ := mem_key ho hy
      refine (mem_ent (n := 1024) k hk e ht).2 ?_
      rw [setX_at, if_neg (fun h => hn (by omega))]
      refine (txL_at ho k y.text ht).2 ?_
      rw [← e]; exact hy
theorem del_mem {l : List En} (ho : OkL l) {q : Int} (hq : 0 ≤ q) (y : En) : y ∈ delE l q ↔ y ∈ l ∧ y.key ≠ q := by
  constructor
  · intro hy
    obtain ⟨k, hk, e, ht⟩ := mem_key (del_okL ho q) hy
    have h := (mem_ent (n := 1024) k hk e ht).1 hy
    rw [setX_at] at h
    split at h
    · exact absurd h.symm ht
    · rename_i hkx
      refine ⟨?_, fun ek => hkx (by omega)⟩
      have := (txL_at ho k y.text ht).1 h
      rw [← e] at this
      exact this
  · rintro ⟨hy, hn⟩
    obtain ⟨k, hk, e, ht⟩ := mem_key ho hy
    refine (mem_ent (n := 1024) k hk e ht).2 ?_
    rw [setX_at, if_neg (fun h => hn (by omega))]
    refine (txL_at ho k y.text ht).2 ?_
    rw [← e]; exact hy
def DisK (l : List En) : Prop := l.Pairwise fun a b => a.key ≠ b.key
theorem dup_no : ∀ {l : List En} {f : Txs}, (∀ x ∈ l, rightE x = true) → dupF f l = false → (∀ x ∈ l, f x.key.toNat = []) ∧ DisK l
  | [], _, _, _ => ⟨fun _ h => absurd h List.not_mem_nil, List.Pairwise.nil⟩
  | x :: r, f, hr, h => by
    rw [dupF] at h
    split at h
    · rename_i e
      obtain ⟨a, b⟩ := dup_no (fun y hy => hr y (List.mem_cons_of_mem _ hy)) h
      have hxr := right_iffE.1 (hr x (by simp))
      have hxt : x.text ≠ [] := fun e => by rw [e] at hxr; exact absurd hxr.2.2.1 (by decide)
      have key : ∀ y ∈ r, y.key.toNat ≠ x.key.toNat ∧ f y.key.toNat = [] := fun y hy => by
        have := a y hy
        rw [setX_at] at this
        split at this
        · exact absurd this hxt
        · rename_i q; exact ⟨q, this⟩
      refine ⟨fun y hy => ?_, List.Pairwise.cons (fun y hy e => (key y hy).1 (by rw [e])) b⟩
      rcases List.mem_cons.1 hy with e' | e'
      · rw [e']; exact e
      · exact (key y e').2
    · cases h
theorem bld_at : ∀ (l : List En) (f : Txs) (k : Nat), (∀ x ∈ l, rightE x = true) → DisK l → l.foldl (fun f x => setX f x.key.toNat x.text) f k = (getL l (k : Int)).getD (f k)
  | [], f, k, _, _ => rfl
  | x :: r, f, k, hr, hd => by
    have hxr := right_iffE.1 (hr x (by simp))
    rw [List.foldl_cons, bld_at r _ k (fun y hy => hr y (List.mem_cons_of_mem _ hy)) (List.pairwise_cons.1 hd).2]
    rw [getL]
    split
    · rename_i e
      have hkx : k = x.key.toNat := by omega
      have : getL r (k : Int) = none := getL_none.2 fun y hy ey => (List.pairwise_cons.1 hd).1 y hy (by rw [ey]; exact e)
      rw [this]
      show setX f x.key.toNat x.text k = x.text
      rw [setX_at, if_pos hkx]
    · rename_i e
      have : setX f x.key.toNat x.text k = f k := by
        rw [setX_at, if_neg (fun h => e (by omega))]
      rw [this]
def srtE (l : List En) : List En := entX (bldF l) 1024
theorem srt_ok {l : List En} (hr : ∀ x ∈ l, rightE x = true) : OkL (srtE l) := entX_ok (bldF_ok hr) 1024 (Nat.le_refl _)
theorem getL_dis : ∀ {l : List En}, DisK l → ∀ {x : En}, x ∈ l → getL l x.key = some x.text
  | y :: r, hd, x, hx => by
    rw [getL]
    rcases List.mem_cons.1 hx with e | e
    · rw [e, if_pos rfl]
    · rw [if_neg (fun h => (List.pairwise_cons.1 hd).1 x e h)]
      exact getL_dis (List.pairwise_cons.1 hd).2 e
theorem srt_mem {l : List En} (hr : ∀ x ∈ l, rightE x = true) (hd : DisK l) (y : En) : y ∈ srtE l ↔ y ∈ l := by
  constructor
  · intro hy
    obtain ⟨k, hk, e, ht⟩ := mem_key (srt_ok hr) hy
    have h := (mem_ent (n := 1024) k hk e ht).1 hy
    unfold bldF at h
    rw [bld_at l _ k hr hd] at h
    cases hg : getL l (k : Int) with
    | none => rw [hg] at h; exact absurd h.symm ht
    | some v =>
      rw [hg] at h
      have h : v = y.text := h
      have := getL_mem hg
      rw [h, ← e] at this
      exact this
  · intro hy
    have hyr := right_iffE.1 (hr y hy)
    have ht : y.text ≠ [] := fun e => by rw [e] at hyr; exact absurd hyr.2.2.1 (by decide)
    refine (mem_ent (n := 1024) y.key.toNat (by omega) (by omega) ht).2 ?_
    unfold bldF
    rw [bld_at l _ _ hr hd, show ((y.key.toNat : Nat) : Int) = y.key by omega, getL_dis hd hy]
    rfl
end Go.Proofs.YtjgadggehpmdkaaGreatDoor
namespace Go.Proofs.YtjgadggehpmdkaaGreatDoor
theorem put_is {room : Nat} {s : Sh} {h : Int} {l : List En} {x : En} (a : IsT s h l) (hx : rightE x = true) : pPutR room s h x = putT room s (putE l x) := by
  have e := hasT_some a
  rw [← ent_txL a.1] at e
  exact pPutR_yes e (txL_okX a.1) hx
theorem del_is {room : Nat} {s : Sh} {h : Int} {l : List En} {k : Int} {v : List UInt8} (a : IsT s h l) (hk : 0 ≤ k ∧ k ≤ 1023) (g : getL l k = some v) : pDelR room s h k = putT room s (delE l k) :=
  pDelR_some (hasT_some a) hk g
theorem del_none {room : Nat} {s : Sh} {h : Int} {l : List En} {k : Int} (a : IsT s h l) (hk : 0 ≤ k ∧ k ≤ 1023) (g : getL l k = none) : pDelR room s h k = (s, 0, 4) :=
  pDelR_lack (hasT_some a) hk g
theorem get_is {s : Sh} {h : Int} {l : List En} (a : IsT s h l) (k : Int) : getR s h k = getL l k := getR_some (hasT_some a)
theorem bld_is {room : Nat} {s : Sh} {l : List En} (hr : ∀ x ∈ l, rightE x = true) (hd : dupF (fun _ => []) l = false) : pBldR room s l = putT room s (srtE l) := by
  unfold pBldR
  have h1 : (l.any fun x => !rightE x) = false := List.any_eq_false.2 fun x hx => by rw [hr x hx]; decide
  rw [if_neg (by rw [h1]; decide), if_neg (by rw [hd]; decide)]
  rfl
def alA : List En := [⟨5, [120]⟩, ⟨2, [121]⟩]
def alL1 : List En := [⟨2, [121]⟩, ⟨5, [120]⟩]
def alL2 : List En := [⟨2, [121]⟩, ⟨5, [122]⟩]
def alL3 : List En := [⟨2, [121]⟩]
def alS1 : Sh := (putT 9 [] alL1).1
def alS2 : Sh := (putT 9 alS1 alL2).1
def alS3 : Sh := (putT 9 alS2 alL3).1
theorem alOk1 : OkL alL1 := ⟨by decide, by decide⟩
theorem alOk2 : OkL alL2 := ⟨by decide, by decide⟩
theorem alOk3 : OkL alL3 := ⟨by decide, by decide⟩
theorem alT1 : putT 9 [] alL1 = (alS1, 3, 0) := by kernel_rfl
theorem alT2 : putT 9 alS1 alL2 = (alS2, 5, 0) := by kernel_rfl
theorem alT3 : putT 9 alS2 alL3 = (alS3, 2, 0) := by kernel_rfl
theorem alC1 : szT' (trK 2 alL1) = 3 := by kernel_rfl
theorem alC2 : szT' (trK 2 alL2) = 3 := by kernel_rfl
theorem alC3 : szT' (trK 2 alL3) = 1 := by kernel_rfl
theorem alN1 : cntS alS1 = 3 := by kernel_rfl
theorem alN2 : cntS alS2 = 5 := by kernel_rfl
theorem alI : IsT alS1 3 alL1 ∧ Inv 9 alS1 ∧ IsT alS2 5 alL2 ∧ Inv 9 alS2 ∧ IsT alS3 2 alL3 ∧ Inv 9 alS3 ∧ Up alS1 alS2 ∧ Up alS2 alS3 := by
  obtain ⟨_, a2, a3, a4, _, _⟩ := putT_good (inv_nil 9) alOk1 (by decide) (Nat.le_trans (Nat.add_le_add_left (cost_sz _ _) _) (by rw [alC1]; decide))
  rw [alT1] at a2 a3 a4
  obtain ⟨_, b2, b3, b4, _, _⟩ := putT_good a3 alOk2 (by decide) (Nat.le_trans (Nat.add_le_add_left (cost_sz _ _) _) (by rw [alC2]; show cntS alS1 + 3 ≤ 9; rw [alN1]; decide))
  rw [show (alS1, (3 : Int), 0).1 = alS1 from rfl, alT2] at b2 b3 b4
  obtain ⟨_, c2, c3, c4, _, _⟩ := putT_good b3 alOk3 (by decide) (Nat.le_trans (Nat.add_le_add_left (cost_sz _ _) _) (by rw [alC3]; show cntS alS2 + 1 ≤ 9; rw [alN2]; decide))
  rw [show (alS2, (5 : Int), 0).1 = alS2 from rfl, alT3] at c2 c3 c4
  exact ⟨a2, a3, b2, b3, c2, c3, b4, c4⟩
theorem alB : pBldR 9 [] alA = (alS1, 3, 0) := by
  have hr : ∀ x ∈ alA, rightE x = true := by decide
  have hd : DisK alA := by unfold DisK; decide
  rw [bld_is hr (by kernel_rfl), ← alT1]
  exact congrArg (putT 9 []) <| (srt_ok hr).eq alOk1 fun y => by
    rw [srt_mem hr hd]
    simp only [alA, alL1, List.mem_cons, List.not_mem_nil, or_false]
    exact or_comm
theorem alP : pPutR 9 alS1 3 ⟨5, [122]⟩ = (alS2, 5, 0) := by
  have hx : rightE ⟨5, [122]⟩ = true := by decide
  rw [put_is alI.1 hx, ← alT2]
  refine congrArg (putT 9 alS1) ?_
  refine (put_okL alOk1 hx).eq alOk2 fun y => ?_
  rw [put_mem alOk1 hx]
  simp only [alL1, alL2, List.mem_cons, List.not_mem_nil, or_false]
  constructor
  · rintro (e | ⟨e | e, h⟩)
    · exact .inr e
    · exact .inl e
    · rw [e] at h; exact absurd rfl h
  · rintro (e | e)
    · exact .inr ⟨.inl e, by rw [e]; decide⟩
    · exact .inl e
theorem alD : pDelR 9 alS2 5 5 = (alS3, 2, 0) := by
  rw [del_is alI.2.2.1 (by decide) (show getL alL2 5 = some [122] by rfl), ← alT3]
  refine congrArg (putT 9 alS2) ?_
  refine (del_okL alOk2 5).eq alOk3 fun y => ?_
  rw [del_mem alOk2 (by decide)]
  simp only [alL3, alL2, List.mem_cons, List.not_mem_nil, or_false]
  constructor
  · rintro ⟨e | e, h⟩
    · exact e
    · rw [e] at h; exact absurd rfl h
  · intro e
    exact ⟨.inl e, by rw [e]; decide⟩
theorem alH2 : hasT alS3 5 = some alL2 := hasT_some (isT_up alI.2.2.2.2.2.2.2 alI.2.2.1)
theorem alG : getR alS3 3 5 = some [120] := by
  rw [get_is (isT_up alI.2.2.2.2.2.2.2 (isT_up alI.2.2.2.2.2.2.1 alI.1))]; rfl
theorem alE : pDelR 9 alS3 2 5 = (alS3, 0, 4) := del_none alI.2.2.2.2.1 (by decide) rfl
theorem alH3 : hasT alS3 2 = some alL3 := hasT_some alI.2.2.2.2.1
theorem al9 : hasT alS3 9 = none := by
  refine hasT_none fun l a => ?_
  rcases a.2 with e | ⟨_, e⟩
  · exact absurd e.2 (by decide)
  · have key : ∀ t : Tr, ¬ At alS3 t 9 := by
      rintro ⟨k, nums, text, kids⟩ q
      rw [At] at q
      obtain ⟨hs, hn, _⟩ := q
      have : ndAt alS3 9 = none := by kernel_rfl
      rw [this] at hn
      cases hn
    exact key _ e
theorem alK5 : hashK 5 = 102 := by kernel_rfl
theorem alK25 : hashK 25 = 0 := by kernel_rfl
end Go.Proofs.YtjgadggehpmdkaaGreatDoor
namespace Go.Proofs.YtjgadggehpmdkaaGreatDoor
def sortK (l : List En) : Nat → List En
  | 0 => []
  | n + 1 => sortK l n ++ l.filter (fun x => decide (x.key = (n : Int)))
theorem sortK_mem (l : List En) : ∀ (n : Nat) (x : En), x ∈ sortK l n ↔ x ∈ l ∧ 0 ≤ x.key ∧ x.key < (n : Int)
  | 0, x => by rw [sortK]; constructor; (intro h; cases h); (rintro ⟨_, h⟩; omega)
  | n + 1, x => by
    rw [sortK, List.mem_append, sortK_mem l n x, List.mem_filter, decide_eq_true_eq]
    constructor
    · rintro (⟨h, a⟩ | ⟨h, a⟩)
      · exact ⟨h, by omega⟩
      · exact ⟨h, by omega⟩
    · rintro ⟨h, a, b⟩
      by_cases e : x.key = (n : Int)
      · exact .inr ⟨h, e⟩
      · exact .inl ⟨h, by omega⟩
theorem sortK_le (l : List En) : ∀ n : Nat, (sortK l n).Pairwise (fun a b => a.key ≤ b.key)
  | 0 => by rw [sortK]; exact List.Pairwise.nil
  | n + 1 => by
    rw [sortK]
    refine List.pairwise_append.2 ⟨sortK_le l n, ?_, fun a ha b hb => ?_⟩
    · refine List.Pairwise.imp_of_mem (R := fun _ _ => True) (fun {a b} ha hb _ => ?_) (List.pairwise_of_forall fun _ _ => trivial)
      have h1 := (List.mem_filter.1 ha).2
      have h2 := (List.mem_filter.1 hb).2
      rw [decide_eq_true_eq] at h1 h2
      omega
    · have h1 := ((sortK_mem l n a).1 ha).2.2
      have h2 := (List.mem_filter.1 hb).2
      rw [decide_eq_true_eq] at h2
      omega
theorem sortK_count (l : List En) (a : En) : ∀ n : Nat, (sortK l n).count a = if 0 ≤ a.key ∧ a.key < (n : Int) then l.count a else 0
  | 0 => by rw [sortK, if_neg (by omega)]; rfl
  | n + 1 => by
    rw [sortK, List.count_append, sortK_count l a n]
    by_cases hd : a.key = (n : Int)
    · have h0 : (l.filter (fun x => decide (x.key = (n : Int)))).count a = l.count a := List.count_filter (by simpa using hd)
      rw [h0, if_neg (by omega), if_pos (by omega), Nat.zero_add]
    · have h0 : (l.filter (fun x => decide (x.key = (n : Int)))).count a = 0 := List.count_eq_zero.2 (fun hm => hd (by have := (List.mem_filter.1 hm).2; simpa using this))
      rw [h0, Nat.add_zero]
      by_cases h1 : 0 ≤ a.key ∧ a.key < (n : Int)
      · rw [if_pos h1, if_pos (by omega)]
      · rw [if_neg h1, if_neg (by omega)]
theorem sortK_perm_n {l : List En} (hk : KeyIn l) (n : Nat) (hn : n = 1024) : (sortK l n).Perm l := by
  rw [List.perm_iff_count]
  intro a
  rw [sortK_count]
  by_cases ha : a ∈ l
  · have := hk a ha
    rw [if_pos (by omega)]
  · rw [List.count_eq_zero_of_not_mem ha]; simp
theorem sortK_perm {l : List En} (hk : KeyIn l) : (sortK l 1024).Perm l := sortK_perm_n hk 1024 rfl
theorem keyIn_of {l : List En} (h : ∀ x ∈ l, rightE x = true) : KeyIn l := fun x hx => by have := right_iffE.1 (h x hx); omega
theorem dis_perm {l m : List En} (hp : l.Perm m) : DisK l ↔ DisK m := hp.pairwise_iff (fun h e => h e.symm)
theorem le_ne_lt : ∀ {l : List En}, l.Pairwise (fun a b => a.key ≤ b.key) → DisK l → l.Pairwise (fun a b => a.key < b.key) := fun {l} h k =>
  (h.and k).imp fun {a b} ⟨h1, h2⟩ => by omega
theorem adj_dis : ∀ {l : List En}, l.Pairwise (fun a b => a.key ≤ b.key) → (∀ (j : Nat) (x y : En), l[j]? = some x → l[j + 1]? = some y → y.key ≠ x.key) → DisK l
  | [], _, _ => List.Pairwise.nil
  | [x], _, _ => List.pairwise_singleton _ _
  | x :: y :: r, h, ha => by
    have h1 := List.pairwise_cons.1 h
    have ih := adj_dis h1.2 (fun j a b e1 e2 => ha (j + 1) a b (by simpa using e1) (by simpa using e2))
    have h0 := ha 0 x y rfl rfl
    have hxy := h1.1 y (by simp)
    refine List.Pairwise.cons (fun z hz => ?_) ih
    have hyz : y.key ≤ z.key := by
      rcases List.mem_cons.1 hz with e | e
      · rw [e]; exact Int.le_refl _
      · exact (List.pairwise_cons.1 h1.2).1 z e
    omega
theorem dis_adj {l : List En} (hd : DisK l) {j : Nat} {x y : En} (hx : l[j]? = some x) (hy : l[j + 1]? = some y) : y.key ≠ x.key := by
  obtain ⟨h1, rfl⟩ := List.getElem?_eq_some_iff.1 hx
  obtain ⟨h2, rfl⟩ := List.getElem?_eq_some_iff.1 hy
  exact (List.pairwise_iff_getElem.1 hd j (j + 1) h1 h2 (by omega)).symm
theorem dup_yes : ∀ {l : List En} {f : Txs}, (∀ x ∈ l, rightE x = true) → (∀ x ∈ l, f x.key.toNat = []) → DisK l → dupF f l = false
  | [], _, _, _, _ => rfl
  | x :: r, f, hr, hf, hd => by
    rw [dupF, if_pos (hf x (by simp))]
    have h2 := List.pairwise_cons.1 hd
    have hx := right_iffE.1 (hr x (by simp))
    refine dup_yes (fun y hy => hr y (List.mem_cons_of_mem _ hy)) (fun y hy => ?_) h2.2
    have hy' := right_iffE.1 (hr y (List.mem_cons_of_mem _ hy))
    have := h2.1 y hy
    rw [setX_at, if_neg (by omega)]
    exact hf y (List.mem_cons_of_mem _ hy)
theorem sort_ok {l : List En} (hr : ∀ x ∈ l, rightE x = true) (hd : DisK l) : OkL (sortK l 1024) :=
  ⟨fun x hx => hr x ((sortK_perm (keyIn_of hr)).mem_iff.1 hx), le_ne_lt (sortK_le l 1024) ((dis_perm (sortK_perm (keyIn_of hr))).2 hd)⟩
theorem sort_is {l : List En} (hr : ∀ x ∈ l, rightE x = true) (hd : DisK l) : sortK l 1024 = srtE l :=
  (sort_ok hr hd).eq (srt_ok hr) fun y => by rw [srt_mem hr hd]; exact (sortK_perm (keyIn_of hr)).mem_iff
/- what Build comes to -/
theorem bld_no {room : Nat} {s : Sh} {l : List En} {x : En} (hx : x ∈ l) (h : rightE x = false) : pBldR room s l = (s, 0, 1) := by
  unfold pBldR
  rw [if_pos]
  exact List.any_eq_true.2 ⟨x, hx, by rw [h]; rfl⟩
theorem bld_dup {room : Nat} {s : Sh} {l : List En} (hr : ∀ x ∈ l, rightE x = true) (hd : ¬ DisK l) : pBldR room s l = (s, 0, 5) := by
  unfold pBldR
  have h1 : (l.any fun x => !rightE x) = false := List.any_eq_false.2 fun x hx => by rw [hr x hx]; decide
  rw [if_neg (by rw [h1]; decide), if_pos]
  cases h : dupF (fun _ => []) l with
  | true => rfl
  | false => exact absurd (dup_no hr h).2 hd
theorem bld_yes {room : Nat} {s : Sh} {l : List En} (hr : ∀ x ∈ l, rightE x = true) (hd : DisK l) : pBldR room s l = putT room s (sortK l 1024) := by
  rw [bld_is hr (dup_yes hr (fun _ _ => rfl) hd), sort_is hr hd]
theorem sort_adj {l : List En} (hr : ∀ x ∈ l, rightE x = true) (ha : ∀ (j : Nat) (x y : En), (sortK l 1024)[j]? = some x → (sortK l 1024)[j + 1]? = some y → y.key ≠ x.key) : DisK l :=
  (dis_perm (sortK_perm (keyIn_of hr))).1 (adj_dis (sortK_le l 1024) ha)
theorem sort_not {l : List En} (hr : ∀ x ∈ l, rightE x = true) {j : Nat} {x y : En} (hx : (sortK l 1024)[j]? = some x) (hy : (sortK l 1024)[j + 1]? = some y) (e : y.key = x.key) : ¬ DisK l := fun h =>
  dis_adj ((dis_perm (sortK_perm (keyIn_of hr))).2 h) hx hy e
/- without a key -/
def dropK (l : List En) (k : Int) : List En := l.filter (fun x => !decide (x.key = k))
theorem dropK_mem {l : List En} {k : Int} {y : En} : y ∈ dropK l k ↔ y ∈ l ∧ y.key ≠ k := by
  unfold dropK; rw [List.mem_filter]; simp
theorem ok_dis {l : List En} (h : OkL l) : DisK l := h.2.imp fun {a b} hab e => by omega
theorem drop_right {l : List En} (h : OkL l) (k : Int) : ∀ x ∈ dropK l k, rightE x = true := fun x hx => h.1 x (dropK_mem.1 hx).1
theorem drop_dis {l : List En} (h : OkL l) (k : Int) : DisK (dropK l k) := (ok_dis h).sublist List.filter_sublist
theorem more_right {l : List En} (h : OkL l) {x : En} (hx : rightE x = true) : ∀ y ∈ dropK l x.key ++ [x], rightE y = true := fun y hy => by
  rcases List.mem_append.1 hy with e | e
  · exact drop_right h _ y e
  · rw [List.mem_singleton.1 e]; exact hx
theorem more_dis {l : List En} (h : OkL l) (x : En) : DisK (dropK l x.key ++ [x]) :=
  List.pairwise_append.2 ⟨drop_dis h _, List.pairwise_singleton _ _, fun a ha b hb => by rw [List.mem_singleton.1 hb]; exact (dropK_mem.1 ha).2⟩
theorem put_bld {room : Nat} {s : Sh} {h : Int} {l : List En} {x : En} (e : hasT s h = some l) (hx : rightE x = true) : pPutR room s h x = pBldR room s (dropK l x.key ++ [x]) := by
  have a := hasT_is e
  rw [put_is a hx, bld_is (more_right a.1 hx) (dup_yes (more_right a.1 hx) (fun _ _ => rfl) (more_dis a.1 x))]
  refine congrArg (putT room s) ((put_okL a.1 hx).eq (srt_ok (more_right a.1 hx)) fun y => ?_)
  rw [srt_mem (more_right a.1 hx) (more_dis a.1 x), put_mem a.1 hx, List.mem_append, dropK_mem, List.mem_singleton]
  exact or_comm
theorem del_bld {room : Nat} {s : Sh} {h k : Int} {l : List En} {v : List UInt8} (e : hasT s h = some l) (hk : 0 ≤ k ∧ k ≤ 1023) (g : getL l k = some v) : pDelR room s h k = pBldR room s (dropK l k) := by
  have a := hasT_is e
  rw [del_is a hk g, bld_is (drop_right a.1 k) (dup_yes (drop_right a.1 k) (fun _ _ => rfl) (drop_dis a.1 k))]
  refine congrArg (putT room s) ((del_okL a.1 k).eq (srt_ok (drop_right a.1 k)) fun y => ?_)
  rw [srt_mem (drop_right a.1 k) (drop_dis a.1 k), del_mem a.1 hk.1, dropK_mem]
end Go.Proofs.YtjgadggehpmdkaaGreatDoor
