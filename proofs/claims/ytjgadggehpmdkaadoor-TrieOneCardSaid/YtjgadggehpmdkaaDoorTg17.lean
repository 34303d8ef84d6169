/- Texts joined: TpT, TpU, OaL, TuA, TrAe, TrAf, TuB. -/
import Derived.Test.YtjgadggehpmdkaaDoorTg16
import Derived.Test.YtjgadggehpmdkaaDoorTg10
import Derived.BigGuard
import Derived.Test.YtjgadggehpmdkaaDoorTg04
import Derived.Deep.RegionHeld3
import Derived.Deep.QuietTactic
import Derived.BigQuiet
set_option linter.all false
namespace Go.Proofs.YtjgadggehpmdkaaDoor
theorem put_is {room : Nat} {s : Sh} {h : Int} {l : List En} {x : En} (a : IsT s h l) (hx : rightE x = true) : pPutR room s h x = putT room s (putE l x) := by
  have e := hasT_some a
  rw [← ent_txL a.1] at e
  exact pPutR_yes e (txL_okX a.1) hx
theorem del_is {room : Nat} {s : Sh} {h : Int} {l : List En} {k : Int} {v : List UInt8} (a : IsT s h l) (hk : 0 ≤ k ∧ k ≤ 1023) (g : getL l k = some v) : pDelR room s h k = putT room s (delE l k) :=
  pDelR_some (hasT_some a) hk g
theorem del_none {room : Nat} {s : Sh} {h : Int} {l : List En} {k : Int} (a : IsT s h l) (hk : 0 ≤ k ∧ k ≤ 1023) (g : getL l k = none) : pDelR room s h k = (s, 0, 4) :=
  pDelR_lack (hasT_some a) hk g
theorem get_is {s : Sh} {h : Int} {l : List En} (a : IsT s h l) (k : Int) : getR s h k = getL l k := getR_some (hasT_some a)
theorem bld_is {room : Nat} {s : Sh} {l : List En} (hr : ∀ x ∈ l, rightE x = true) (hd : dupF (fun _ => []) l = false) : pBldR room s l = putT room s (srtE l) := by
  unfold pBldR
  have h1 : (l.any fun x => !rightE x) = false := List.any_eq_false.2 fun x hx => by rw [hr x hx]; decide
  rw [if_neg (by rw [h1]; decide), if_neg (by rw [hd]; decide)]
  rfl
theorem isT_bound {room : Nat} {s : Sh} (hi : Inv room s) {h : Int} {l : List En} (a : IsT s h l) : 0 ≤ h ∧ h ≤ room := by
  rcases a.2 with e | ⟨_, e⟩
  · omega
  · have key : ∀ t : Tr, At s t h → 0 ≤ h ∧ h ≤ room := by
      rintro ⟨k, nums, text, kids⟩ q
      rw [At] at q
      obtain ⟨hs, hn, _⟩ := q
      have hl := hi.len
      unfold ndAt at hn
      split at hn
      · rename_i hp
        cases hg : s[(h - 1).toNat]? with
        | none => rw [hg] at hn; cases hn
        | some u =>
          have := (List.getElem?_eq_some_iff.1 hg).1
          omega
      · cases hn
    exact key _ e
/- the live question -/
def alA : List En := [⟨5, [120]⟩, ⟨2, [121]⟩]
def alL1 : List En := [⟨2, [121]⟩, ⟨5, [120]⟩]
def alL2 : List En := [⟨2, [121]⟩, ⟨5, [122]⟩]
def alL3 : List En := [⟨2, [121]⟩]
def alS1 : Sh := (putT 9 [] alL1).1
def alS2 : Sh := (putT 9 alS1 alL2).1
def alS3 : Sh := (putT 9 alS2 alL3).1
theorem alOk1 : OkL alL1 := ⟨by decide, by decide⟩
theorem alOk2 : OkL alL2 := ⟨by decide, by decide⟩
theorem alOk3 : OkL alL3 := ⟨by decide, by decide⟩
theorem alT1 : putT 9 [] alL1 = (alS1, 3, 0) := by kernel_rfl
theorem alT2 : putT 9 alS1 alL2 = (alS2, 5, 0) := by kernel_rfl
theorem alT3 : putT 9 alS2 alL3 = (alS3, 2, 0) := by kernel_rfl
theorem alC1 : szT' (trK 2 alL1) = 3 := by kernel_rfl
theorem alC2 : szT' (trK 2 alL2) = 3 := by kernel_rfl
theorem alC3 : szT' (trK 2 alL3) = 1 := by kernel_rfl
theorem alN1 : cntS alS1 = 3 := by kernel_rfl
theorem alN2 : cntS alS2 = 5 := by kernel_rfl
theorem alI : IsT alS1 3 alL1 ∧ Inv 9 alS1 ∧ IsT alS2 5 alL2 ∧ Inv 9 alS2 ∧ IsT alS3 2 alL3 ∧ Inv 9 alS3 ∧ Up alS1 alS2 ∧ Up alS2 alS3 := by
  obtain ⟨_, a2, a3, a4, _, _⟩ := putT_good (inv_nil 9) alOk1 (by decide) (Nat.le_trans (Nat.add_le_add_left (cost_sz _ _) _) (by rw [alC1]; decide))
  rw [alT1] at a2 a3 a4
  obtain ⟨_, b2, b3, b4, _, _⟩ := putT_good a3 alOk2 (by decide) (Nat.le_trans (Nat.add_le_add_left (cost_sz _ _) _) (by rw [alC2]; show cntS alS1 + 3 ≤ 9; rw [alN1]; decide))
  rw [show (alS1, (3 : Int), 0).1 = alS1 from rfl, alT2] at b2 b3 b4
  obtain ⟨_, c2, c3, c4, _, _⟩ := putT_good b3 alOk3 (by decide) (Nat.le_trans (Nat.add_le_add_left (cost_sz _ _) _) (by rw [alC3]; show cntS alS2 + 1 ≤ 9; rw [alN2]; decide))
  rw [show (alS2, (5 : Int), 0).1 = alS2 from rfl, alT3] at c2 c3 c4
  exact ⟨a2, a3, b2, b3, c2, c3, b4, c4⟩
theorem alB : pBldR 9 [] alA = (alS1, 3, 0) := by
  have hr : ∀ x ∈ alA, rightE x = true := by decide
  have hd : DisK alA := by unfold DisK; decide
  rw [bld_is hr (by kernel_rfl), ← alT1]
  exact congrArg (putT 9 []) <| (srt_ok hr).eq alOk1 fun y => by
    rw [srt_mem hr hd]
    simp only [alA, alL1, List.mem_cons, List.not_mem_nil, or_false]
    exact or_comm
theorem alP : pPutR 9 alS1 3 ⟨5, [122]⟩ = (alS2, 5, 0) := by
  have hx : rightE ⟨5, [122]⟩ = true := by decide
  rw [put_is alI.1 hx, ← alT2]
  refine congrArg (putT 9 alS1) ?_
  refine (put_okL alOk1 hx).eq alOk2 fun y => ?_
  rw [put_mem alOk1 hx]
  simp only [alL1, alL2, List.mem_cons, List.not_mem_nil, or_false]
  constructor
  · rintro (e | ⟨e | e, h⟩)
    · exact .inr e
    · exact .inl e
    · rw [e] at h; exact absurd rfl h
  · rintro (e | e)
    · exact .inr ⟨.inl e, by rw [e]; decide⟩
    · exact .inl e
theorem alD : pDelR 9 alS2 5 5 = (alS3, 2, 0) := by
  rw [del_is alI.2.2.1 (by decide) (show getL alL2 5 = some [122] by rfl), ← alT3]
  refine congrArg (putT 9 alS2) ?_
  refine (del_okL alOk2 5).eq alOk3 fun y => ?_
  rw [del_mem alOk2 (by decide)]
  simp only [alL3, alL2, List.mem_cons, List.not_mem_nil, or_false]
  constructor
  · rintro ⟨e | e, h⟩
    · exact e
    · rw [e] at h; exact absurd rfl h
  · intro e
    exact ⟨.inl e, by rw [e]; decide⟩
theorem alH2 : hasT alS3 5 = some alL2 := hasT_some (isT_up alI.2.2.2.2.2.2.2 alI.2.2.1)
theorem alG : getR alS3 3 5 = some [120] := by
  rw [get_is (isT_up alI.2.2.2.2.2.2.2 (isT_up alI.2.2.2.2.2.2.1 alI.1))]; rfl
theorem alE : pDelR 9 alS3 2 5 = (alS3, 0, 4) := del_none alI.2.2.2.2.1 (by decide) rfl
theorem alH3 : hasT alS3 2 = some alL3 := hasT_some alI.2.2.2.2.1
theorem al9 : hasT alS3 9 = none := by
  refine hasT_none fun l a => ?_
  rcases a.2 with e | ⟨_, e⟩
  · exact absurd e.2 (by decide)
  · have key : ∀ t : Tr, ¬ At alS3 t 9 := by
      rintro ⟨k, nums, text, kids⟩ q
      rw [At] at q
      obtain ⟨hs, hn, _⟩ := q
      have : ndAt alS3 9 = none := by kernel_rfl
      rw [this] at hn
      cases hn
    exact key _ e
theorem alK5 : hashK 5 = 102 := by kernel_rfl
theorem alK25 : hashK 25 = 0 := by kernel_rfl
end Go.Proofs.YtjgadggehpmdkaaDoor
namespace Go.Proofs.YtjgadggehpmdkaaDoor
theorem bld_cases {l : List En} (hl : l.length ≤ 60) : (pBldR 20000 [] l).2.2 ≠ 0 ∧ (pBldR 20000 [] l).2.2 ≤ 5 ∨ (∀ x ∈ l, rightE x = true) ∧ DisK l ∧ (pBldR 20000 [] l).2.2 = 0 ∧ IsT (pBldR 20000 [] l).1 (pBldR 20000 [] l).2.1 (srtE l) ∧ Inv 20000 (pBldR 20000 [] l).1 ∧ cntS (pBldR 20000 [] l).1 ≤ 240 := by
  by_cases ha : (l.any fun x => !rightE x) = true
  · left
    unfold pBldR
    rw [if_pos ha]
    exact ⟨by decide, by decide⟩
  · by_cases hd : dupF (fun _ => []) l = true
    · left
      unfold pBldR
      rw [if_neg ha, if_pos hd]
      exact ⟨by decide, by decide⟩
    · right
      have hd' : dupF (fun _ => []) l = false := by simpa using hd
      have hr : ∀ x ∈ l, rightE x = true := fun x hx => by
        have := List.any_eq_false.1 (show (l.any fun x => !rightE x) = false by simpa using ha) x hx
        simpa using this
      have hk := (dup_no hr hd').2
      have ho := srt_ok hr
      have hln := srt_len hr hk
      rw [bld_is hr hd']
      have hc : srtE l ≠ [] → cost [] (trK 2 (srtE l)) ≤ 240 := fun hne => by
        have h1 := cost_sz [] (trK 2 (srtE l))
        have h2 := sz_trK 2 ho.keys hne
        rw [hln] at h2
        omega
      have h0 : cntS [] = 0 := rfl
      obtain ⟨a, b, c, _, e, _, g⟩ := putT_any (inv_nil 20000) ho (fun hne => by have := hc hne; omega)
      refine ⟨hr, hk, a, b, c, ?_⟩
      by_cases hne : srtE l = []
      · rw [g hne]; omega
      · rcases e with e | e
        · exact absurd e hne
        · have := hc hne; omega
theorem put_step {s : Sh} {h : Int} {l : List En} {x : En} (hi : Inv 20000 s) (a : IsT s h l) (hx : rightE x = true) (hc : cntS s ≤ 19000) :
    (pPutR 20000 s h x).2.2 = 0 ∧ IsT (pPutR 20000 s h x).1 (pPutR 20000 s h x).2.1 (putE l x) ∧ Inv 20000 (pPutR 20000 s h x).1 ∧ Up s (pPutR 20000 s h x).1 ∧ cntS s ≤ cntS (pPutR 20000 s h x).1 ∧ cntS (pPutR 20000 s h x).1 ≤ cntS s + 4 := by
  rw [put_is a hx]
  have hm := put_mem a.1 hx
  have hne : putE l x ≠ [] := fun e => by
    have := (hm x).2 (.inl rfl)
    rw [e] at this
    cases this
  have h4 := cost_ins (x := x) 2 (Nat.le_refl 2) a.1 (put_okL a.1 hx) hm (a.2.imp (fun e => e.1) (fun e => ⟨h, e.2⟩)) (by unfold Pre; trivial)
  obtain ⟨p1, p2, p3, p4, p5, p6⟩ := putT_good hi (put_okL a.1 hx) hne (by omega)
  exact ⟨p1, p2, p3, p4, p6, by omega⟩
theorem del_step {s : Sh} {h h0 : Int} {l : List En} {x : En} (hi : Inv 20000 s) (a : IsT s h (putE l x)) (b : IsT s h0 l) (hx : rightE x = true) (hn : getL l x.key = none) (hc : cntS s ≤ 19000) :
    (pDelR 20000 s h x.key).2.2 = 0 ∧ (pDelR 20000 s h x.key).2.1 = h0 ∧ Inv 20000 (pDelR 20000 s h x.key).1 ∧ Up s (pDelR 20000 s h x.key).1 ∧ cntS (pDelR 20000 s h x.key).1 ≤ cntS s := by
  have hxr := right_iffE.1 hx
  rw [del_is a ⟨hxr.1, hxr.2.1⟩ (get_put b.1 hx), del_put b.1 hx hn]
  have hk : l ≠ [] → cost s (trK 2 l) = 0 := fun hne => by
    rcases b.2 with e | e
    · exact absurd e.1 hne
    · exact cost_at e.2
  obtain ⟨p1, p2, p3, p4, p5, p6, p7⟩ := putT_any hi b.1 (fun hne => by have := hk hne; omega)
  refine ⟨p1, isT_one p3 p2 (isT_up p4 b), p3, p4, ?_⟩
  by_cases hne : l = []
  · rw [p7 hne]; exact Nat.le_refl _
  · rcases p5 with e | e
    · exact absurd e hne
    · have := hk hne; omega
end Go.Proofs.YtjgadggehpmdkaaDoor
namespace Go.Proofs.YtjgadggehpmdkaaDoor
open Go.RowKit Go.Maps
theorem o9Len {w : World} {B a room : Nat} {K : Nat → Prop} {s : Sh} (h : On9 w B a room s K) :
    Calls Tryd.prog 9 #[.pointer (some ⟨a, 0, none⟩)] w fun e w' => e = .returned (.int .i64 ((liveA s).length : Int)) ∧ w' = w := by
  obtain ⟨F, h⟩ := h
  obtain ⟨K, ps, t, A, cS, bK, low, hA, hL, hF, hE, hO, hC, hB, hT⟩ := h.ap
  refine (pLen_any hA).mono fun e w' ⟨he, hw⟩ => ?_
  rw [hE.liveAE] at he
  exact ⟨he, hw⟩
end Go.Proofs.YtjgadggehpmdkaaDoor
namespace Go.Proofs.YtjgadggehpmdkaaDoor
open Go.RowKit Go.Shelf
theorem pentGuard : Tryd.prog.eqGuardType Tryd.prog.depth 36 = false := by kernel_rfl
theorem pentStood : Tryd.prog.stoodInHeld 36 = false := by kernel_rfl
theorem pentStruct : Tryd.prog.underlying 36 = some (.struct (Tryd.prog.fieldsOf 36)) := by kernel_rfl
theorem guard_pent (op : BinOp) (X Y : Operand) (xs ys : Array Value) (W : World) : (eqGuard op 36 X Y (.agg xs) (.agg ys)).run Tryd.prog W = .ok () W := run_eqGuard_agg W op 36 X Y xs ys pentGuard
theorem eql_pent (x : Int) (s : ByteArray) (W : World) : (binOp .eql 36 (.agg #[.int .i64 x, .string s]) (.agg #[.int .i64 x, .string s])).run Tryd.prog W = .ok (.bool true) W := by
  rw [run_eql_struct, run_equalIn_agg W 9999 36 _ _ pentStruct pentStood]
  simp [go_sem]
theorem lf9_up {w w0 w2 : World} {B a room : Nat} {s : Sh} {K K2 : Nat → Prop} (h : Lf9 w B a room s K w2 K2) (h0 : Below B w0 w) : On9 w2 B a room s K2 ∧ Below B w0 w2 := ⟨h.1, h0.trans h.2.2.2⟩
set_option maxHeartbeats 16000000 in
set_option maxRecDepth 10000 in
theorem talive_any (w : World) (hE : TB w.heap.size w) : Calls Tryd.prog 4 #[] w fun e w' => e = .returned (.bool true) ∧ Below w.heap.size w w' := by
  have HE := Lib.hid (o9New w hE 9 (by decide))
  have hI1 : ∀ W, (binOp .eql 36 (.agg #[.int .i64 2, .string ⟨#[121]⟩]) (.agg #[.int .i64 2, .string ⟨#[121]⟩])).run Tryd.prog W = .ok (.bool true) W := eql_pent 2 ⟨#[121]⟩
  have hI2 : ∀ W, (binOp .eql 36 (.agg #[.int .i64 5, .string ⟨#[122]⟩]) (.agg #[.int .i64 5, .string ⟨#[122]⟩])).run Tryd.prog W = .ok (.bool true) W := eql_pent 5 ⟨#[122]⟩
  have hG1 := fun X Y W => guard_pent .eql X Y #[.int .i64 2, .string ⟨#[121]⟩] #[.int .i64 2, .string ⟨#[121]⟩] W
  have hG2 := fun X Y W => guard_pent .eql X Y #[.int .i64 5, .string ⟨#[122]⟩] #[.int .i64 5, .string ⟨#[122]⟩] W
  clear hE
  go_enter Tryd.func4, Tryd.ntmps4
  go_wp2_with fail
  refine HE.out.mono ?_; rintro e w1 ⟨a, K1, rfl, hO1, hK1, hb1⟩
  clear HE
  have hb2 : Below w1.heap.size w1 (w1.alloc (.cells #[.int .i64 5, .string ⟨#[120]⟩, .int .i64 2, .string ⟨#[121]⟩] 36)) := (Below.refl _ _).alloc (Nat.le_refl _) _
  have hO2 := hO1.below hb2
  have hrow : RowE (w1.alloc (.cells #[.int .i64 5, .string ⟨#[120]⟩, .int .i64 2, .string ⟨#[121]⟩] 36)) (fun g => K1 g ∨ (w1.heap.size ≤ g ∧ g < (w1.alloc (.cells #[.int .i64 5, .string ⟨#[120]⟩, .int .i64 2, .string ⟨#[121]⟩] 36)).heap.size)) (some ⟨w1.heap.size, 0, none⟩) alA := by
    refine .inr ⟨_, _, rfl, .inr ⟨Nat.le_refl _, by simp⟩, by simp, ?_⟩
    intro i x hx j u hu
    rw [Lib.cell_of_heap (heap_alloc_new w1 _)]
    rcases i with _ | _ | i
    · obtain rfl : x = ⟨5, [120]⟩ := (Option.some.inj hx).symm
      rcases j with _ | _ | j
      · exact hu
      · exact hu
      · cases hu
    · obtain rfl : x = ⟨2, [121]⟩ := (Option.some.inj hx).symm
      rcases j with _ | _ | j
      · exact hu
      · exact hu
      · cases hu
    · cases hx
  have HBu := Lib.hid (ptbuild_any hO2 alA (some ⟨w1.heap.size, 0, none⟩) 2 hrow (by decide) (by decide))
  have HB2 := Lib.hid (hb1.trans (hb2.mono hb1.size))
  clear hO1 hK1 hb1 hb2 hO2 hrow
  rw [alB] at HBu
  go_wp2_with fail
  refine HBu.out.mono ?_; rintro e w3 ⟨K3, rfl, hl3⟩
  obtain ⟨hO3, hb3⟩ := lf9_up hl3 HB2.out
  have HP := Lib.hid (ptrput_any hO3 3 (by decide) ⟨5, [122]⟩ (by decide))
  have HB3 := Lib.hid hb3
  clear hl3 hO3 hb3 HBu HB2
  rw [show (alS1, (3 : Int), 0).1 = alS1 from rfl, alP] at HP
  unfold enV at HP
  go_wp2_with fail
  refine HP.out.mono ?_; rintro e w4 ⟨K4, rfl, hl4⟩
  obtain ⟨hO4, hb4⟩ := lf9_up hl4 HB3.out
  have HD := Lib.hid (ptrdel_any hO4 5 (by decide) 5)
  have HB4 := Lib.hid hb4
  clear hl4 hO4 hb4 HP HB3
  rw [show (alS2, (5 : Int), 0).1 = alS2 from rfl, alD] at HD
  go_wp2_with fail
  refine HD.out.mono ?_; rintro e w5 ⟨K5, rfl, hl5⟩
  obtain ⟨hO5, hb5⟩ := lf9_up hl5 HB4.out
  have HAl := Lib.hid (pall_any hO5 5 (by decide))
  have HO5 := Lib.hid hO5
  have HB5 := Lib.hid hb5
  clear hl5 hO5 hb5 HD HB4
  rw [show (alS3, (2 : Int), 0).1 = alS3 from rfl, alH2] at HAl
  go_wp2_with fail
  refine HAl.out.mono ?_; rintro e w6 ⟨O, co, rfl, hco, hr6, hb6⟩
  have hO6 := HO5.out.below hb6
  have HGt := Lib.hid (pget_any hO6 3 (by decide) 5)
  have HO6 := Lib.hid hO6
  have HR6 := Lib.hid (hr6.mono (Q := fun g => K5 g ∨ (w5.heap.size ≤ g ∧ g < w6.heap.size)) fun g hg hl => .inr ⟨hg, hl⟩)
  have HB6 := Lib.hid (HB5.out.trans (hb6.mono HO5.out.base))
  clear hO6 hr6 hb6 HO5 HB5 HAl
  rw [alG] at HGt
  go_wp2_with fail
  refine HGt.out.mono ?_; rintro e w7 ⟨rfl, hb7⟩
  have hO7 := HO6.out.below hb7
  have HD2 := Lib.hid (ptrdel_any hO7 2 (by decide) 5)
  have HR7 := Lib.hid ((HR6.out.below hb7).mono (Q := fun g => (K5 g ∨ (w5.heap.size ≤ g ∧ g < w6.heap.size)) ∨ (w6.heap.size ≤ g ∧ g < w7.heap.size)) fun g hg _ => .inl hg)
  have HB7 := Lib.hid (HB6.out.trans (hb7.mono HO6.out.base))
  clear hO7 hb7 HR6 HB6 HO6 HGt
  rw [alE] at HD2
  go_wp2_with fail
  refine HD2.out.mono ?_; rintro e w8 ⟨K8, rfl, hl8⟩
  have hr8 := HR7.out.kept hl8.2.2.1
  obtain ⟨hO8, hb8⟩ := lf9_up hl8 HB7.out
  obtain ⟨g, o, rfl, _, hgl, hat⟩ := hr8.at (i := 0) (by decide)
  obtain ⟨q0, q1⟩ := hat.two (i := 0) (x := ⟨2, [121]⟩) rfl
  obtain ⟨q2, q3⟩ := hat.two (i := 1) (x := ⟨5, [122]⟩) rfl
  have p0 : w8.cell? ⟨g, o, none⟩ = some (.int .i64 2) := q0
  have p1 : w8.cell? ⟨g, o + 1, none⟩ = some (.string ⟨#[121]⟩) := q1
  have p2 : w8.cell? ⟨g, o + 2, none⟩ = some (.int .i64 5) := q2
  have p3 : w8.cell? ⟨g, o + 2 + 1, none⟩ = some (.string ⟨#[122]⟩) := q3
  have hlen : ((alL2.length : Nat) : Int) = 2 := rfl
  clear q0 q1 q2 q3
  have HI2 := Lib.hid (pis_any hO8 2 (by decide))
  have HO8 := Lib.hid hO8
  have HB8 := Lib.hid hb8
  clear hl8 hO8 hb8 HD2 HB7 HR7 hr8 hat
  rw [show (alS3, (0 : Int), 4).1 = alS3 from rfl, alH3] at HI2
  go_wp2_with fail
  refine HI2.out.mono ?_; rintro e w9 ⟨rfl, hb9⟩
  have HI9 := Lib.hid (pis_any (HO8.out.below hb9) 9 (by decide))
  have HB9 := Lib.hid (HB8.out.trans (hb9.mono HO8.out.base))
  clear hb9 HI2 HO8 HB8 p0 p1 p2 p3
  rw [al9] at HI9
  go_wp2_with fail
  refine HI9.out.mono ?_; rintro e w10 ⟨rfl, hb10⟩
  have HBx := Lib.hid (HB9.out.trans (hb10.mono HB9.out.size))
  have HK5 := Lib.hid (phash_any 5 w10)
  have HK25 := Lib.hid (fun w => phash_any 25 w)
  clear hb10 HB9 HI9
  rw [alK5] at HK5
  simp only [alK25] at HK25
  go_wp2_with fail
  refine HK5.out.mono ?_; rintro e w11 ⟨rfl, rfl⟩
  go_wp2_with fail
  refine (HK25.out _).mono ?_; rintro e w12 ⟨rfl, rfl⟩
  go_wp2_with fail
  go_ret
  exact ⟨rfl, HBx.out⟩
end Go.Proofs.YtjgadggehpmdkaaDoor
namespace Go.Proofs.YtjgadggehpmdkaaDoor
open Go.RowKit
theorem rent_info : (Tryd.prog.info? 40).map (fun i => (i.zero, i.size, i.bytes)) = some (some (.agg #[.int .i64 0, .string ⟨#[]⟩]), 2, 24) := by kernel_rfl
set_option maxHeartbeats 4000000 in
set_option maxRecDepth 10000 in
theorem rright_any (x : En) (w : World) (hl : x.text.length ≤ maxLen) : Calls Tryd.prog 12 #[.agg #[.int .i64 x.key, .string ⟨x.text.toArray⟩]] w fun e w' => e = .returned (.bool (rightE x)) ∧ Below w.heap.size w w' := by
  obtain ⟨k, t⟩ := x
  have hba : Below w.heap.size w (w.alloc (.cells #[.int .i64 k, .string ⟨t.toArray⟩] 40)) := (Below.refl _ _).alloc (Nat.le_refl _) _
  have HB := Lib.hid hba
  clear hba
  have hl : t.length ≤ maxLen := hl
  have HR : Hid (rightE ⟨k, t⟩ = (decide (0 ≤ k) && (decide (k ≤ 1023) && (decide ((1 : Int) ≤ (t.length : Int)) && decide ((t.length : Int) ≤ 200))))) := Lib.hid (by
    unfold rightE
    show (decide (0 ≤ k) && (decide (k ≤ 1023) && (decide (1 ≤ t.length) && decide (t.length ≤ 200)))) = _
    congr 3
    · exact decide_eq_decide.2 (by omega)
    · exact decide_eq_decide.2 (by omega))
  cases h0 : decide (0 ≤ k) with
  | false =>
    rw [h0] at HR
    go_enter Tryd.func12, Tryd.ntmps12
    go_wp2_with fail
    go_ret
    exact ⟨by rw [HR.out]; rfl, HB.out⟩
  | true =>
    cases h1 : decide (k ≤ 1023) with
    | false =>
      rw [h0, h1] at HR
      go_enter Tryd.func12, Tryd.ntmps12
      go_wp2_with fail
      go_ret
      exact ⟨by rw [HR.out]; rfl, HB.out⟩
    | true =>
      cases h2 : decide ((1 : Int) ≤ (t.length : Int)) with
      | false =>
        rw [h0, h1, h2] at HR
        go_enter Tryd.func12, Tryd.ntmps12
        go_wp2_with fail
        go_ret
        exact ⟨by rw [HR.out]; rfl, HB.out⟩
      | true =>
        rw [h0, h1, h2] at HR
        go_enter Tryd.func12, Tryd.ntmps12
        go_wp2_with fail
        go_ret
        exact ⟨by rw [HR.out]; rfl, HB.out⟩
set_option maxHeartbeats 8000000 in
set_option maxRecDepth 10000 in
theorem lof_any (l : List En) (A : Option Addr) (ca : Nat) (w : World) {Q : Nat → Prop} (hl : RowE w Q A l) (hll : l.length ≤ 1000000) :
    Calls Tryd.prog 7 #[.slice A l.length ca] w fun e w' => ∃ O co, e = .returned (.slice O l.length co) ∧ l.length ≤ co ∧ RowE w' (fun g => w.heap.size ≤ g) O l ∧ Below w.heap.size w w' := by
  obtain ⟨i0, hi0, hz0, hz1, hz2⟩ := info_parts rent_info
  have HL := Lib.hid hl
  clear hl
  go_enter Tryd.func7, Tryd.ntmps7
  go_wp2_with fail
  go_loopw [3, 4] (fun v vi wr => ∃ (i : Nat), i ≤ l.length ∧ vi = .int .i64 (i : Int) ∧ Hid (OwnR 40 2 enW w.heap.size wr v (l.take i)) ∧ Below w.heap.size w wr) (fun _ vi _ => l.length - (RowKit.intOf vi).toNat)
  case atStart => exact ⟨0, Nat.zero_le _, rfl, Lib.hid (by rw [List.take_zero]; exact World.ownsRow_nil _ _ _ _), Below.refl _ _⟩
  case round =>
    obtain ⟨i, hi, rfl, HO, hb⟩ := hrel
    by_cases hlt : i < l.length
    · obtain ⟨x, hx⟩ : ∃ x, l[i]? = some x := ⟨_, List.getElem?_eq_getElem hlt⟩
      obtain ⟨g, o, rfl, _, hgl, hat⟩ := HL.out.at hlt
      obtain ⟨q0, q1⟩ := hat.two hx
      have k0 := keep_cell hb q0
      have k1 := keep_cell hb q1
      have hI : (i : Int) < (l.length : Int) := by omega
      have hbs := hb.size
      have hsp : l.take (i + 1) = l.take i ++ [x] := by rw [List.take_add_one, hx]; rfl
      have HE := Lib.hid hsp
      have hlen : (l.take i).length = i := by rw [List.length_take]; omega
      have HLn := Lib.hid hlen
      obtain ⟨kx, tx⟩ := x
      clear hat q0 q1 hx hsp hlen
      have HB := Lib.hid hb
      have hge : w.heap.size ≤ (wr.alloc (.cells (enW ⟨kx, tx⟩).toArray 40)).heap.size := by simp; omega
      clear hb
      go_wp2_with fail
      go_region_law (first
        | (refine step_append_rows (f := enW) (n := 2) (E := 40) (nb := 24) (X := l.take i) (base := w.heap.size) (by rfl) _ _ (by rfl) (by rfl) (OwnR.below HO.out (by with_reducible repeat' (first | exact Below.refl _ _ | exact Nat.le_refl _ | refine Below.drew ?_ | refine Below.alloc ?_ ?_ _))) (L2 := [(⟨kx, tx⟩ : En)]) (by rfl) (by first | exact one_row _ (⟨kx, tx⟩ : En) | exact one_row _ _) (by simp) (N := i + 1) (by rw [HLn.out]; rfl) (Z := l.take (i + 1)) HE.out.symm Tryd.underlying30 hi0 hz0 hz1 hz2 (by rfl) (by decide) (by decide) (fun _ => rfl) enW_one (by first | omega | (simp; omega)) (by first | omega | (simp; done) | (simp; omega)) ?_; intro g4 k4 w4 ho4 hg4 hat4 hl4
           have hb4 : Below w.heap.size w w4 := HB.out.trans (Below.grown (by with_reducible repeat' (first | exact Below.refl _ _ | exact Nat.le_refl _ | exact hbs | refine Below.drew ?_ | refine Below.alloc ?_ ?_ _)) hg4 (by first | omega | (simp; done) | (simp; omega)) (fun k hk => (World.ownsRow.lt HO.out k hk).1))
           have HO4 := Lib.hid ho4
           clear ho4 hg4 hat4 hl4)
        | fail)
      all_goals
        go_wp2_with fail
        go_roundw
        case rel => exact ⟨i + 1, by omega, by go_num, HO4, hb4⟩
        case measure => simp [RowKit.intOf]; omega
    · have hii : i = l.length := by omega
      subst hii
      have hO := HO.out
      rw [List.take_length] at hO
      obtain ⟨O, co, hv, hc, hr⟩ := own_rowE hO
      subst hv
      have HR := Lib.hid hr
      clear hr hO
      go_wp2_with fail
      go_ret
      exact ⟨O, co, rfl, hc, HR.out, hb⟩
end Go.Proofs.YtjgadggehpmdkaaDoor
namespace Go.Proofs.YtjgadggehpmdkaaDoor
open Go.RowKit
theorem rentGuard : Tryd.prog.eqGuardType Tryd.prog.depth 40 = false := by kernel_rfl
theorem rentStood : Tryd.prog.stoodInHeld 40 = false := by kernel_rfl
theorem rentStruct : Tryd.prog.underlying 40 = some (.struct (Tryd.prog.fieldsOf 40)) := by kernel_rfl
theorem guard_rent (op : BinOp) (X Y : Operand) (xs ys : Array Value) (W : World) : (eqGuard op 40 X Y (.agg xs) (.agg ys)).run Tryd.prog W = .ok () W := run_eqGuard_agg W op 40 X Y xs ys rentGuard
theorem neq_rent (x y : Int) (s t : List UInt8) (W : World) : (binOp .neq 40 (.agg #[.int .i64 x, .string ⟨s.toArray⟩]) (.agg #[.int .i64 y, .string ⟨t.toArray⟩])).run Tryd.prog W = .ok (.bool (!decide ((⟨x, s⟩ : En) = ⟨y, t⟩))) W := by
  rw [run_neq_struct, run_equalIn_agg W 9999 40 _ _ rentStruct rentStood]
  have e : ∀ s : List UInt8, (⟨s.toArray⟩ : ByteArray).toList = s := fun s => ByteArray.toList_eq _
  by_cases h1 : x = y <;> by_cases h2 : s = t <;> simp [go_sem, h1, h2, e, En.mk.injEq]
set_option maxHeartbeats 4000000 in
set_option maxRecDepth 10000 in
theorem rsameE_any (l m : List En) (A C : Option Addr) (ca cb : Nat) (w : World) {Q R : Nat → Prop} (hl : RowE w Q A l) (hm : RowE w R C m) (hll : l.length ≤ 1000000) :
    Calls Tryd.prog 14 #[.slice A l.length ca, .slice C m.length cb] w fun e w' => e = .returned (.bool (decide (l = m))) ∧ ∃ n, w' = w.drewN n := by
  have HL := Lib.hid hl
  have HM := Lib.hid hm
  clear hl hm
  by_cases hne : l.length = m.length
  · have d0 : ((l.length : Int) != (m.length : Int)) = false := by simp [hne]
    have HN := Lib.hid hne
    clear hne
    go_enter Tryd.func14, Tryd.ntmps14
    go_wp2_with fail
    go_loopw [5] (fun v wr => ∃ i : Nat, i ≤ l.length ∧ v = .int .i64 i ∧ Hid (l.take i = m.take i) ∧ ∃ n, wr = w.drewN n) (fun v _ => l.length - (RowKit.intOf v).toNat)
    case atStart => exact ⟨0, Nat.zero_le _, rfl, Lib.hid (by simp), 0, rfl⟩
    case round =>
      obtain ⟨i, hi, rfl, HU, nd, rfl⟩ := hrel
      by_cases hlt : i < l.length
      · obtain ⟨x, hx⟩ : ∃ x, l[i]? = some x := ⟨_, List.getElem?_eq_getElem hlt⟩
        have hlt2 : i < m.length := by have := HN.out; omega
        obtain ⟨y, hy⟩ : ∃ y, m[i]? = some y := ⟨_, List.getElem?_eq_getElem hlt2⟩
        obtain ⟨g, o, rfl, _, _, ha⟩ := HL.out.at hlt
        obtain ⟨g', o', rfl, _, _, hb⟩ := HM.out.at hlt2
        obtain ⟨a0, a1⟩ := ha.two hx
        obtain ⟨b0, b1⟩ := hb.two hy
        have hI : (i : Int) < (l.length : Int) := by omega
        have hJ : (i : Int) < (m.length : Int) := by omega
        have Hxy := Lib.hid hx
        have Hpq := Lib.hid hy
        obtain ⟨kx, tx⟩ := x
        obtain ⟨ky, ty⟩ := y
        clear hx hy ha hb
        have hG := fun X Y W => guard_rent .neq X Y #[.int .i64 kx, .string ⟨tx.toArray⟩] #[.int .i64 ky, .string ⟨ty.toArray⟩] W
        have hE := neq_rent kx ky tx ty
        cases he : (!decide ((⟨kx, tx⟩ : En) = ⟨ky, ty⟩)) with
        | true =>
          rw [he] at hE
          have HF := Lib.hid (show decide (l = m) = false from decide_eq_false (by
            intro e
            have h1 := Hxy.out
            rw [e, Hpq.out] at h1
            rw [Option.some.inj h1] at he
            simp at he))
          clear he
          go_wp2_with fail
          go_quiet (fail)
          go_wp2_with fail
          go_ret
          exact ⟨ret_bool HF.out.symm, nd + _, by first | exact (World.drewN_drewN _ _ _) | rfl⟩
        | false =>
          rw [he] at hE
          have HS : Hid (l.take (i + 1) = m.take (i + 1)) := Lib.hid (by
            have h2 : (⟨kx, tx⟩ : En) = ⟨ky, ty⟩ := by simpa using he
            rw [List.take_add_one, List.take_add_one, HU.out, Hxy.out, Hpq.out, h2])
          clear he
          go_wp2_with fail
          go_quiet (fail)
          go_wp2_with fail
          go_roundw
          case rel => exact ⟨i + 1, by omega, by go_num, HS, nd + nq, by first | exact (World.drewN_drewN _ _ _) | rfl⟩
          case measure => simp [RowKit.intOf]; omega
      · have HF := Lib.hid (show decide (l = m) = true from decide_eq_true (by
          have h1 := HU.out
          rwa [List.take_of_length_le (by omega), List.take_of_length_le (by have := HN.out; omega)] at h1))
        go_wp2_with fail
        go_ret
        exact ⟨ret_bool HF.out.symm, nd, rfl⟩
  · have d0 : ((l.length : Int) != (m.length : Int)) = true := by simpa using fun h => hne (by omega)
    have HF := Lib.hid (show decide (l = m) = false from decide_eq_false (by rintro rfl; exact hne rfl))
    clear hne
    go_enter Tryd.func14, Tryd.ntmps14
    go_wp2_with fail
    go_ret
    exact ⟨ret_bool HF.out.symm, 0, by simp [World.drewN_zero]⟩
end Go.Proofs.YtjgadggehpmdkaaDoor
namespace Go.Proofs.YtjgadggehpmdkaaDoor
open Go.RowKit Go.Shelf
structure T1 (w : World) (a : Nat) (A1 A2 O : Option Addr) (l m L : List En) (s : Sh) (K : Nat → Prop) (wr : World) : Prop where
  on : On9 wr w.heap.size a 20000 s K
  rl : RowE wr K A1 l
  rm : RowE wr K A2 m
  rL : RowE wr K O L
  bl : Below w.heap.size w wr
theorem T1.below {w : World} {a : Nat} {A1 A2 O : Option Addr} {l m L : List En} {s : Sh} {K : Nat → Prop} {wr w1 : World} (h : T1 w a A1 A2 O l m L s K wr) (hb : Below wr.heap.size wr w1) : T1 w a A1 A2 O l m L s (fun g => K g ∨ (wr.heap.size ≤ g ∧ g < w1.heap.size)) w1 :=
  ⟨h.on.below hb, (h.rl.below hb).mono fun _ hg _ => .inl hg, (h.rm.below hb).mono fun _ hg _ => .inl hg, (h.rL.below hb).mono fun _ hg _ => .inl hg, h.bl.trans (hb.mono h.bl.size)⟩
theorem T1.put {w : World} {a : Nat} {A1 A2 O : Option Addr} {l m L : List En} {s s' : Sh} {K K' : Nat → Prop} {wr w1 : World} (h : T1 w a A1 A2 O l m L s K wr) (hl : Lf9 wr w.heap.size a 20000 s' K w1 K') : T1 w a A1 A2 O l m L s' K' w1 :=
  ⟨hl.1, (h.rl.kept hl.2.2.1).mono fun g hg _ => hl.2.1 g hg, (h.rm.kept hl.2.2.1).mono fun g hg _ => hl.2.1 g hg, (h.rL.kept hl.2.2.1).mono fun g hg _ => hl.2.1 g hg, h.bl.trans hl.2.2.2⟩
structure T0 (w : World) (a : Nat) (A1 A2 : Option Addr) (l m : List En) (s : Sh) (K : Nat → Prop) (wr : World) : Prop where
  on : On9 wr w.heap.size a 20000 s K
  rl : RowE wr K A1 l
  rm : RowE wr K A2 m
  bl : Below w.heap.size w wr
theorem T0.begin {w w1 : World} {a : Nat} {A1 A2 : Option Addr} {l m : List En} {K : Nat → Prop} {Q R : Nat → Prop} (h1 : RowE w Q A1 l) (h2 : RowE w R A2 m) (ho : On9 w1 w.heap.size a 20000 [] K) (hk : ∀ g, g < w.heap.size → K g) (hb : Below w.heap.size w w1) : T0 w a A1 A2 l m [] K w1 := by
  have key : ∀ {A : Option Addr} {l : List En} {Q : Nat → Prop}, RowE w Q A l → RowE w1 K A l := by
    intro A l Q h
    refine RowE.below (P := K) ?_ hb
    exact h.mono fun g _ hl => hk g hl
  exact ⟨ho, key h1, key h2, hb⟩
theorem T0.put {w : World} {a : Nat} {A1 A2 : Option Addr} {l m : List En} {s s' : Sh} {K K' : Nat → Prop} {wr w1 : World} (h : T0 w a A1 A2 l m s K wr) (hl : Lf9 wr w.heap.size a 20000 s' K w1 K') : T0 w a A1 A2 l m s' K' w1 :=
  ⟨hl.1, (h.rl.kept hl.2.2.1).mono fun g hg _ => hl.2.1 g hg, (h.rm.kept hl.2.2.1).mono fun g hg _ => hl.2.1 g hg, h.bl.trans hl.2.2.2⟩
theorem T0.was {w : World} {a : Nat} {A1 A2 O : Option Addr} {l m L : List En} {s : Sh} {K : Nat → Prop} {wr w1 : World} {B : Nat} (h : T0 w a A1 A2 l m s K wr) (hb : Below wr.heap.size wr w1) (hB : wr.heap.size ≤ B) (hr : RowE w1 (fun g => B ≤ g) O L) : T1 w a A1 A2 O l m L s (fun g => K g ∨ (wr.heap.size ≤ g ∧ g < w1.heap.size)) w1 :=
  ⟨h.on.below hb, (h.rl.below hb).mono fun _ hg _ => .inl hg, (h.rm.below hb).mono fun _ hg _ => .inl hg, hr.mono fun _ hg hl => .inr ⟨Nat.le_trans hB hg, hl⟩, h.bl.trans (hb.mono h.bl.size)⟩
theorem RowE.two' {w : World} {P : Nat → Prop} {g o : Nat} {l : List En} {i : Nat} {x : En} (h : RowE w P (some ⟨g, o, none⟩) l) (hx : l[i]? = some x) : w.cell? ⟨g, o + i * 2, none⟩ = some (.int .i64 x.key) ∧ w.cell? ⟨g, o + i * 2 + 1, none⟩ = some (.string ⟨x.text.toArray⟩) := by
  obtain ⟨g', o', e, _, _, hat⟩ := h.at (List.getElem?_eq_some_iff.1 hx).1
  injection e with e
  injection e with e1 e2
  subst e1; subst e2
  exact hat.two hx
theorem tb_up {w w' : World} (hE : TB w.heap.size w) (hb : Below w.heap.size w w') : TB w'.heap.size w' := fun w'' hb' => hE w'' (hb.trans (hb'.mono hb.size))
end Go.Proofs.YtjgadggehpmdkaaDoor
