/- Texts joined: ShM, ShOa, ShP. -/
import Derived.Test.YteflmfifhmlpiaaDoorMb25
import Derived.Test.YteflmfifhmlpiaaDoorMb35
import Derived.Test.YteflmfifhmlpiaaDoorMa22
import Derived.Test.YteflmfifhmlpiaaDoorMa18
set_option linter.all false
set_option linter.unusedVariables false
set_option linter.unusedSimpArgs false
namespace Go.Proofs.YteflmfifhmlpiaaDoor
open Go.RowKit

mutual
def okB : Tr → Bool
  | .mk _ n _ _ _ _ _ ks => decide (n ≤ 9223372036854775807) && decide (ks.length ≤ 1000000) && okLB ks
def okLB : List Tr → Bool
  | [] => true
  | t :: ts => okB t && okLB ts
end
mutual
theorem ok_wf : ∀ {t : Tr}, okB t = true → Wid t ∧ Fit t
  | .mk k n c r d s w ks, h => by
    rw [okB, Bool.and_eq_true, Bool.and_eq_true, decide_eq_true_iff, decide_eq_true_iff] at h
    have hl := okL_wf h.2
    exact ⟨.mk (Nat.le_trans h.1.2 (by decide)) fun t ht => (hl t ht).1, .mk h.1.1 fun t ht => (hl t ht).2⟩
theorem okL_wf : ∀ {l : List Tr}, okLB l = true → ∀ t ∈ l, Wid t ∧ Fit t
  | [], _, t, ht => by cases ht
  | u :: us, h, t, ht => by
    rw [okLB, Bool.and_eq_true] at h
    rcases List.mem_cons.1 ht with e | ht
    · rw [e]; exact ok_wf h.1
    · exact okL_wf h.2 t ht
end
def tx6 : List UInt8 := [83, 85, 77, 40, 66, 50, 58, 67, 50, 44, 66, 50, 41, 43, 65, 49, 42, 35, 82, 69, 70]
def tr6 : Tr := opT [43] (callT [83, 85, 77] [spanT 1 1 2 1, readT 1 1]) (opT [42] (readT 0 0) badT)
def tu6 : Tr := opT [43] (callT [83, 85, 77] [spanT 1 0 2 0, readT 1 0]) (opT [42] badT badT)
theorem live_p : parseL tx6 = .good tr6 := by kernel_rfl
theorem live_s : shB (rightP tr6) 0 (-1) tr6 = tu6 := by kernel_rfl
theorem live_e : erB (rightP tr6) = 0 := by kernel_rfl
theorem live_r : rdL tr6 = [(0, 0), (1, 1), (2, 1)] := by kernel_rfl
theorem live_u : usV 1 1 tr6 = true := by kernel_rfl
theorem live_b : bdV tu6 = 2 := by kernel_rfl
theorem live_z : szV tu6 = 7 := by kernel_rfl
theorem live_t : txT tu6 = [83, 85, 77, 40, 66, 49, 58, 67, 49, 44, 66, 49, 41, 43, 35, 82, 69, 70, 42, 35, 82, 69, 70] := by kernel_rfl
theorem live_q : rightP tu6 = true := by kernel_rfl
theorem live_g : GT tr6 := ⟨(ok_wf (t := tr6) (by decide)).1, (ok_wf (t := tr6) (by decide)).2, by decide, by decide⟩
theorem live_h : GT tu6 := ⟨(ok_wf (t := tu6) (by decide)).1, (ok_wf (t := tu6) (by decide)).2, by decide, by decide⟩
set_option maxHeartbeats 8000000 in
set_option maxRecDepth 100000 in
theorem shalive (w : World) {B : Nat} (hSB : B ≤ w.heap.size) (hSt : Strs B B w) :
    Calls Tryd.prog 6 #[] w fun e w' => e = .returned (.bool true) ∧ Below w.heap.size w w' := by
  have HS := Lib.hid (fun w1 (hb : Below w.heap.size w w1) => And.intro (Nat.le_trans hSB hb.size) (hSt.later hSB hb))
  have HP := Lib.hid (fun w => (rparse_any ⟨tx6.toArray⟩ (by decide) w).mono (R' := fun e w' => ∃ A ca, e = .returned (.tuple #[.agg #[.int .i64 tr6.kind, .int .i64 tr6.num, .int .i64 tr6.c1, .int .i64 tr6.r1, .int .i64 tr6.c2, .int .i64 tr6.r2, .string ⟨tr6.word.toArray⟩, .slice A tr6.kids.length ca], .int .i64 0, .int .i64 0]) ∧ KV w' (fun _ => True) tr6 A ∧ Below w.heap.size w w') fun e w' hp => by
    rw [show (⟨tx6.toArray⟩ : ByteArray).data.toList = tx6 from rfl, live_p] at hp
    obtain ⟨⟨A, ca, he, hk⟩, hb⟩ := hp
    exact ⟨A, ca, he, hk.imp fun _ _ => trivial, hb⟩)
  have HR := Lib.hid (fun w A ca hA B h1 h2 => sReads live_g w A ca hA (B := B) h1 h2)
  rw [live_r] at HR
  have HSh := Lib.hid (fun w A ca hA B h1 h2 => sShift live_g w A ca hA (B := B) h1 h2 0 (-1) (by unfold B63; omega) (by unfold B63; omega))
  rw [live_s, live_e] at HSh
  have HPr := Lib.hid (fun w A ca hA => rprint_yes tu6 live_h.wid live_h.fit live_h.deep live_q (by rw [live_t]; decide) w A ca hA)
  rw [live_t] at HPr
  have HBd := Lib.hid (fun w A ca hA B h1 h2 => sBads live_h w A ca hA (B := B) h1 h2)
  rw [live_b] at HBd
  have HSz := Lib.hid (fun w A ca hA B h1 h2 => sSize live_h w A ca hA (B := B) h1 h2)
  rw [live_z] at HSz
  have HUs := Lib.hid (fun w A ca hA B h1 h2 => sUses live_g w A ca hA (B := B) h1 h2 1 1)
  rw [live_u] at HUs
  unfold tx6 at HP
  clear hSB hSt
  have hl1 := live_g.wid.len
  have hl2 := live_h.wid.len
  unfold maxLen at hl1 hl2
  unfold tv at *
  generalize tr6 = T at *
  generalize tu6 = U at *
  go_enter Tryd.func6, Tryd.ntmps6
  go_wp2_with fail
  refine (HP.out _).mono ?_; rintro e w1 ⟨A, ca, rfl, ht, b1⟩
  have H1 := Lib.hid (belowAlloc b1 b1.size (.cells #[.int .i64 T.kind, .int .i64 T.num, .int .i64 T.c1, .int .i64 T.r1, .int .i64 T.c2, .int .i64 T.r2, .string ⟨T.word.toArray⟩, .slice A T.kids.length ca] 29))
  have C1 := Lib.hid (Here.new w1 T A ca)
  have K1 : Hid (KV (w1.alloc (.cells #[.int .i64 T.kind, .int .i64 T.num, .int .i64 T.c1, .int .i64 T.r1, .int .i64 T.c2, .int .i64 T.r2, .string ⟨T.word.toArray⟩, .slice A T.kids.length ca] 29)) (fun _ => True) T A) := Lib.hid (ht.kept (Kept.of_below ((Below.refl _ _).alloc (Nat.le_refl _) _)))
  clear b1 ht
  go_wp2_with fail
  refine (HR.out _ A ca K1.out B (HS.out _ H1.out).1 (HS.out _ H1.out).2).mono ?_; rintro e w2 ⟨rv, rfl, hrow, b2⟩
  have H2 := Lib.hid (H1.out.trans (b2.mono H1.out.size))
  have C2 := Lib.hid (C1.out.below b2)
  have K2 := Lib.hid (K1.out.kept (Kept.of_below b2))
  obtain ⟨RA, rc, rfl, hat⟩ := own_shape (l := [(0, 0), (1, 1), (2, 1)]) hrow
  obtain ⟨g, rfl, hgl, hat⟩ := hat 0 (by decide)
  have L2 := Lib.hid (And.intro (hat 0 0 0 rfl) (And.intro (hat 1 1 1 rfl) (hat 2 2 1 rfl)))
  clear b2 H1 C1 K1 hrow hat
  obtain ⟨c0, c1, c2, c3, c4, c5, c6, c7⟩ := C2.out
  go_wp2_with fail
  refine (HSh.out _ A ca K2.out B (HS.out _ H2.out).1 (HS.out _ H2.out).2).mono ?_; rintro e w3 ⟨⟨A', ca', rfl, hu⟩, b3⟩
  have hu2 : KV w3 (fun _ => True) U A' := hu.imp fun _ _ => trivial
  have H3 := Lib.hid (belowAlloc (H2.out.trans (b3.mono H2.out.size)) (Nat.le_trans H2.out.size b3.size) (.cells #[.int .i64 U.kind, .int .i64 U.num, .int .i64 U.c1, .int .i64 U.r1, .int .i64 U.c2, .int .i64 U.r2, .string ⟨U.word.toArray⟩, .slice A' U.kids.length ca'] 29))
  have C3 := Lib.hid ((C2.out.below b3).alloc (.cells #[.int .i64 U.kind, .int .i64 U.num, .int .i64 U.c1, .int .i64 U.r1, .int .i64 U.c2, .int .i64 U.r2, .string ⟨U.word.toArray⟩, .slice A' U.kids.length ca'] 29))
  have K3 : Hid (KV (w3.alloc (.cells #[.int .i64 U.kind, .int .i64 U.num, .int .i64 U.c1, .int .i64 U.r1, .int .i64 U.c2, .int .i64 U.r2, .string ⟨U.word.toArray⟩, .slice A' U.kids.length ca'] 29)) (fun _ => True) T A) := Lib.hid ((K2.out.kept (Kept.of_below b3)).kept (Kept.of_below ((Below.refl _ _).alloc (Nat.le_refl _) _)))
  have D3 := Lib.hid (Here.new w3 U A' ca')
  have M3 : Hid (KV (w3.alloc (.cells #[.int .i64 U.kind, .int .i64 U.num, .int .i64 U.c1, .int .i64 U.r1, .int .i64 U.c2, .int .i64 U.r2, .string ⟨U.word.toArray⟩, .slice A' U.kids.length ca'] 29)) (fun _ => True) U A') := Lib.hid (hu2.kept (Kept.of_below ((Below.refl _ _).alloc (Nat.le_refl _) _)))
  have b3' : Below w2.heap.size w2 (w3.alloc (.cells #[.int .i64 U.kind, .int .i64 U.num, .int .i64 U.c1, .int .i64 U.r1, .int .i64 U.c2, .int .i64 U.r2, .string ⟨U.word.toArray⟩, .slice A' U.kids.length ca'] 29)) := b3.alloc b3.size _
  have L3 := Lib.hid (And.intro (And.intro (keep_cell b3' L2.out.1.1) (keep_cell b3' L2.out.1.2)) (And.intro (And.intro (keep_cell b3' L2.out.2.1.1) (keep_cell b3' L2.out.2.1.2)) (And.intro (keep_cell b3' L2.out.2.2.1) (keep_cell b3' L2.out.2.2.2))))
  clear b3 b3' H2 C2 K2 L2 hu hu2 c0 c1 c2 c3 c4 c5 c6 c7 hgl
  obtain ⟨c0, c1, c2, c3, c4, c5, c6, c7⟩ := D3.out
  go_wp2_with fail
  refine (HPr.out _ A' ca' M3.out).mono ?_; rintro e wk ⟨rfl, b4⟩
  have H4 := Lib.hid (H3.out.trans (b4.mono H3.out.size))
  have C4 := Lib.hid (C3.out.below b4)
  have K4 := Lib.hid (K3.out.kept (Kept.of_below b4))
  have D4 := Lib.hid (D3.out.below b4)
  have M4 := Lib.hid (M3.out.kept (Kept.of_below b4))
  have L4 := Lib.hid (And.intro (And.intro (keep_cell b4 L3.out.1.1) (keep_cell b4 L3.out.1.2)) (And.intro (And.intro (keep_cell b4 L3.out.2.1.1) (keep_cell b4 L3.out.2.1.2)) (And.intro (keep_cell b4 L3.out.2.2.1) (keep_cell b4 L3.out.2.2.2))))
  clear b4 H3 C3 K3 D3 M3 L3 c0 c1 c2 c3 c4 c5 c6 c7
  have HL : Hid (∀ w', Below wk.heap.size wk w' → (w'.cell? ⟨w3.heap.size, 0, none⟩ = some (.int .i64 U.kind) ∧ w'.cell? ⟨w3.heap.size, 1, none⟩ = some (.int .i64 U.num) ∧ w'.cell? ⟨w3.heap.size, 2, none⟩ = some (.int .i64 U.c1) ∧ w'.cell? ⟨w3.heap.size, 3, none⟩ = some (.int .i64 U.r1) ∧ w'.cell? ⟨w3.heap.size, 4, none⟩ = some (.int .i64 U.c2) ∧ w'.cell? ⟨w3.heap.size, 5, none⟩ = some (.int .i64 U.r2) ∧ w'.cell? ⟨w3.heap.size, 6, none⟩ = some (.string ⟨U.word.toArray⟩) ∧ w'.cell? ⟨w3.heap.size, 7, none⟩ = some (.slice A' U.kids.length ca')) ∧ (w'.cell? ⟨w1.heap.size, 0, none⟩ = some (.int .i64 T.kind) ∧ w'.cell? ⟨w1.heap.size, 1, none⟩ = some (.int .i64 T.num) ∧ w'.cell? ⟨w1.heap.size, 2, none⟩ = some (.int .i64 T.c1) ∧ w'.cell? ⟨w1.heap.size, 3, none⟩ = some (.int .i64 T.r1) ∧ w'.cell? ⟨w1.heap.size, 4, none⟩ = some (.int .i64 T.c2) ∧ w'.cell? ⟨w1.heap.size, 5, none⟩ = some (.int .i64 T.r2) ∧ w'.cell? ⟨w1.heap.size, 6, none⟩ = some (.string ⟨T.word.toArray⟩) ∧ w'.cell? ⟨w1.heap.size, 7, none⟩ = some (.slice A T.kids.length ca)) ∧ w'.cell? ⟨g, 0, none⟩ = some (.int .i64 0) ∧ w'.cell? ⟨g, 1, none⟩ = some (.int .i64 0) ∧ w'.cell? ⟨g, 2, none⟩ = some (.int .i64 1) ∧ w'.cell? ⟨g, 3, none⟩ = some (.int .i64 1) ∧ w'.cell? ⟨g, 4, none⟩ = some (.int .i64 2) ∧ w'.cell? ⟨g, 5, none⟩ = some (.int .i64 1)) := Lib.hid fun w' hb => ⟨D4.out.below hb, C4.out.below hb, keep_cell hb L4.out.1.1, keep_cell hb L4.out.1.2, keep_cell hb L4.out.2.1.1, keep_cell hb L4.out.2.1.2, keep_cell hb L4.out.2.2.1, keep_cell hb L4.out.2.2.2⟩
  have HU := Lib.hid (fun w' (hb : Below wk.heap.size wk w') => M4.out.kept (Kept.of_below hb))
  have HT := Lib.hid (fun w' (hb : Below wk.heap.size wk w') => K4.out.kept (Kept.of_below hb))
  have HW := Lib.hid (fun w' (hb : Below wk.heap.size wk w') => HS.out w' (H4.out.trans (hb.mono H4.out.size)))
  clear C4 K4 D4 M4 L4
  go_wp2_with fail
  go_region_held3 (fun w' => (w'.cell? ⟨w3.heap.size, 0, none⟩ = some (.int .i64 U.kind) ∧ w'.cell? ⟨w3.heap.size, 1, none⟩ = some (.int .i64 U.num) ∧ w'.cell? ⟨w3.heap.size, 2, none⟩ = some (.int .i64 U.c1) ∧ w'.cell? ⟨w3.heap.size, 3, none⟩ = some (.int .i64 U.r1) ∧ w'.cell? ⟨w3.heap.size, 4, none⟩ = some (.int .i64 U.c2) ∧ w'.cell? ⟨w3.heap.size, 5, none⟩ = some (.int .i64 U.r2) ∧ w'.cell? ⟨w3.heap.size, 6, none⟩ = some (.string ⟨U.word.toArray⟩) ∧ w'.cell? ⟨w3.heap.size, 7, none⟩ = some (.slice A' U.kids.length ca')) ∧ (w'.cell? ⟨w1.heap.size, 0, none⟩ = some (.int .i64 T.kind) ∧ w'.cell? ⟨w1.heap.size, 1, none⟩ = some (.int .i64 T.num) ∧ w'.cell? ⟨w1.heap.size, 2, none⟩ = some (.int .i64 T.c1) ∧ w'.cell? ⟨w1.heap.size, 3, none⟩ = some (.int .i64 T.r1) ∧ w'.cell? ⟨w1.heap.size, 4, none⟩ = some (.int .i64 T.c2) ∧ w'.cell? ⟨w1.heap.size, 5, none⟩ = some (.int .i64 T.r2) ∧ w'.cell? ⟨w1.heap.size, 6, none⟩ = some (.string ⟨T.word.toArray⟩) ∧ w'.cell? ⟨w1.heap.size, 7, none⟩ = some (.slice A T.kids.length ca)) ∧ w'.cell? ⟨g, 0, none⟩ = some (.int .i64 0) ∧ w'.cell? ⟨g, 1, none⟩ = some (.int .i64 0) ∧ w'.cell? ⟨g, 2, none⟩ = some (.int .i64 1) ∧ w'.cell? ⟨g, 3, none⟩ = some (.int .i64 1) ∧ w'.cell? ⟨g, 4, none⟩ = some (.int .i64 2) ∧ w'.cell? ⟨g, 5, none⟩ = some (.int .i64 1))
    (with_reducible exact HL.out _ (by repeat' (first | with_reducible exact Below.refl _ _ | with_reducible exact B5 | with_reducible exact B6 | with_reducible exact B7 | with_reducible refine Below.drew ?_)))
    (first
    | (go_at_call 13; refine (HUs.out _ A ca (HT.out _ B6) B (HW.out _ B6).1 (HW.out _ B6).2).mono ?_; rintro e w7 ⟨rfl, q7⟩
       have B7 : Below wk.heap.size wk w7 := B6.trans (q7.mono B6.size))
    | (go_at_call 17; refine (HSz.out _ A' ca' (HU.out _ B5) B (HW.out _ B5).1 (HW.out _ B5).2).mono ?_; rintro e w6 ⟨rfl, q6⟩
       have B6 : Below wk.heap.size wk w6 := B5.trans (q6.mono B5.size))
    | (go_at_call 15; refine (HBd.out _ A' ca' (HU.out _ (Below.refl _ wk).drew) B (HW.out _ (Below.refl _ wk).drew).1 (HW.out _ (Below.refl _ wk).drew).2).mono ?_; rintro e w5 ⟨rfl, q5⟩
       have B5 : Below wk.heap.size wk w5 := (Below.refl _ wk).drew.trans q5)
    | fail)
  go_wp2_with fail
  go_ret
  exact ⟨rfl, H4.out.trans (B7.mono H4.out.size)⟩
end Go.Proofs.YteflmfifhmlpiaaDoor
namespace Go.Proofs.YteflmfifhmlpiaaDoor
open Go.RowKit

theorem rsame_twin {t : Tr} (hd : deepT t ≤ 1000000000) (ht : Wid t) (w : World) (P Q : Nat → Prop) (A B : Option Addr) (ca cb : Nat) (hA : KV w P t A) (hB : KV w Q t B) :
    Calls Tryd.prog 9 #[tv t A ca, tv t B cb] w fun e w' => e = .returned (.bool true) ∧ Below w.heap.size w w' :=
  (rsame_any _ t t hd ht ht w P Q A B ca cb hA hB).mono fun e w' ⟨⟨b, he, hb⟩, h⟩ => ⟨by rw [he, hb.2 rfl], h⟩
end Go.Proofs.YteflmfifhmlpiaaDoor
namespace Go.Proofs.YteflmfifhmlpiaaDoor
open Go.RowKit

theorem right_mv (x y : Int) {t : Tr} (hf : Fit t) (hr : rightP t = true) : rightP (mvT x y t) = true := by
  obtain ⟨h6, hd, hm⟩ := (right_iff t).1 hr
  exact (right_iff _).2 ⟨kind6_mv x y h6, by rw [deep_mv x y hf hm]; exact hd, may_mv x y hf hm⟩
theorem sh_right {x y : Int} {t : Tr} (hr : rightP t = true) : shB (rightP t) x y t = mvT x y t := if_pos hr
theorem rdL_map {t : Tr} (hr : rightP t = true) : rdL t = (rdI t).map fun z => (z % 16, z / 16) := by
  unfold rdL
  rw [right_same, if_pos hr]
  unfold readsTo rdI
  rw [List.map_map]
  have hk : ∀ j : Nat, j ∈ List.range 1024 → atC (j : Int) = (j : Int) % 16 ∧ atR (j : Int) = (j : Int) / 16 := fun j hj => ⟨atC_of j (List.mem_range.1 hj), atR_of j (List.mem_range.1 hj)⟩
  have hf : ((List.range 1024).filter fun (j : Nat) => usT (atC (j : Int)) (atR (j : Int)) t) = ((List.range 1024).filter fun (j : Nat) => usT ((j : Int) % 16) ((j : Int) / 16) t) := by
    refine List.filter_congr fun j hj => ?_
    rw [(hk j hj).1, (hk j hj).2]
  rw [hf]
  refine List.map_congr_left fun j hj => ?_
  have hj2 := (List.mem_filter.1 hj).1
  show (atC (j : Int), atR (j : Int)) = ((j : Int) % 16, (j : Int) / 16)
  rw [(hk j hj2).1, (hk j hj2).2]
theorem mem_rdL {t : Tr} (hr : rightP t = true) {c r : Int} : (c, r) ∈ rdL t ↔ usT c r t = true := by
  rw [rdL_map hr, List.mem_map]
  constructor
  · rintro ⟨z, hz, he⟩
    obtain ⟨h0, h1, h2⟩ := mem_rdI.1 hz
    have e1 := congrArg Prod.fst he
    have e2 := congrArg Prod.snd he
    simp only at e1 e2
    rw [← e1, ← e2]; exact h2
  · intro h
    have hb := us_right h
    unfold rightB at hb
    simp at hb
    refine ⟨16 * r + c, mem_rdI.2 ⟨by omega, by omega, ?_⟩, ?_⟩
    · rw [show (16 * r + c) % 16 = c from by omega, show (16 * r + c) / 16 = r from by omega]; exact h
    · rw [show (16 * r + c) % 16 = c from by omega, show (16 * r + c) / 16 = r from by omega]
theorem rdL_at {t : Tr} (hr : rightP t = true) {i : Nat} {c r : Int} (h : (rdL t)[i]? = some (c, r)) : usT c r t = true ∧ (0 ≤ c ∧ c ≤ 15 ∧ 0 ≤ r ∧ r ≤ 63) := by
  have h1 := (mem_rdL hr).1 (List.mem_of_getElem? h)
  have hb := us_right h1
  unfold rightB at hb
  simp at hb
  exact ⟨h1, by omega⟩
theorem rdL_rise {t : Tr} (hr : rightP t = true) {i : Nat} {c r d s : Int} (h : (rdL t)[i]? = some (c, r)) (k : (rdL t)[i + 1]? = some (d, s)) : idxN c r < idxN d s := by
  have e1 := (rdL_at hr h).2
  have e2 := (rdL_at hr k).2
  have i1 : idxN c r = 16 * r + c := if_pos ((rightB_iff _ _).2 ⟨by omega, by omega, by omega, by omega⟩)
  have i2 : idxN d s = 16 * s + d := if_pos ((rightB_iff _ _).2 ⟨by omega, by omega, by omega, by omega⟩)
  rw [rdL_map hr, List.getElem?_map] at h k
  obtain ⟨z, hz, hze⟩ := Option.map_eq_some_iff.1 h
  obtain ⟨q, hq, hqe⟩ := Option.map_eq_some_iff.1 k
  have e3 := congrArg Prod.fst hze
  have e4 := congrArg Prod.snd hze
  have e5 := congrArg Prod.fst hqe
  have e6 := congrArg Prod.snd hqe
  simp only at e3 e4 e5 e6
  have hp := rdI_rise t
  rw [List.pairwise_iff_getElem] at hp
  have l1 := (List.getElem?_eq_some_iff.1 hz)
  have l2 := (List.getElem?_eq_some_iff.1 hq)
  have := hp i (i + 1) l1.1 l2.1 (by omega)
  rw [l1.2, l2.2] at this
  rw [i1, i2]
  omega
theorem us_mv (x y : Int) {t : Tr} (hf : Fit t) : mayB t = true → ∀ {u v : Int}, usT u v (mvT x y t) = true → usT (u - x) (v - y) t = true := by
  induction hf with
  | @mk k n c r d s w ks hn hk ih =>
    intro h u v hu
    have hkids := may_kids h
    have key : ∀ l : List Tr, (∀ t ∈ l, ∀ {u v : Int}, usT u v (mvT x y t) = true → usT (u - x) (v - y) t = true) → usL u v (mvL x y l) = true → usL (u - x) (v - y) l = true := by
      intro l
      induction l with
      | nil => intro _ h; rw [mvL, usL] at h; cases h
      | cons a q ihq =>
        intro ha hu
        rw [mvL, usL, Bool.or_eq_true] at hu
        rw [usL, Bool.or_eq_true]
        rcases hu with hu | hu
        · exact .inl (ha a (by simp) hu)
        · exact .inr (ihq (fun t ht => ha t (by simp [ht])) hu)
    rw [mvT] at hu
    rw [usT]
    by_cases hr : k = 1 ∨ k = 6
    · rw [if_pos hr] at hu ⊢
      by_cases hm : (mvP c r x y && mvP d s x y) = true
      · rw [if_pos hm, usT, if_pos hr] at hu
        rw [← hasP_mv hm, show u - x + x = u from by omega, show v - y + y = v from by omega]
        exact hu
      · rw [if_neg hm] at hu
        unfold badT at hu
        rw [usT, usL] at hu
        simp at hu
    · rw [if_neg hr] at hu ⊢
      rw [usT, if_neg hr] at hu
      exact key ks (fun t ht => ih t ht (hkids t ht)) hu
theorem rd_none {x y : Int} {t : Tr} (hf : Fit t) (hr : rightP t = true) (h : rdL t = []) : rdL (mvT x y t) = [] := by
  obtain ⟨_, _, hm⟩ := (right_iff t).1 hr
  have hr2 := right_mv x y hf hr
  cases hl : rdL (mvT x y t) with
  | nil => rfl
  | cons p q =>
    obtain ⟨c, r⟩ := p
    have h1 : (c, r) ∈ rdL (mvT x y t) := by rw [hl]; simp
    have h2 := us_mv x y hf hm ((mem_rdL hr2).1 h1)
    have h3 := (mem_rdL hr).2 h2
    rw [h] at h3
    cases h3
theorem rd_on {x y : Int} {t : Tr} (hf : Fit t) (hr : rightP t = true) (hb : bdV (mvT x y t) = bdV t) : rdL (mvT x y t) = (rdL t).map fun p => (p.1 + x, p.2 + y) := by
  obtain ⟨_, _, hm⟩ := (right_iff t).1 hr
  have hr2 := right_mv x y hf hr
  have hc : cnK 2 (mvT x y t) = cnK 2 t := by unfold bdV at hb; rwa [if_pos hr, if_pos hr2] at hb
  have hu := (mv_back x y hf hm hc).1
  rw [rdL_map hr2, rdL_map hr, rd_mv x y hf hm hc, List.map_map, List.map_map]
  refine List.map_congr_left fun z hz => ?_
  obtain ⟨h0, h1, h2⟩ := mem_rdI.1 hz
  have h3 : usT (z % 16 + x) (z / 16 + y) (mvT x y t) = true := by rw [hu]; exact h2
  have hb := us_right h3
  unfold rightB at hb
  simp at hb
  show ((z + (16 * y + x)) % 16, (z + (16 * y + x)) / 16) = (z % 16 + x, z / 16 + y)
  rw [show (z + (16 * y + x)) % 16 = z % 16 + x from by omega, show (z + (16 * y + x)) / 16 = z / 16 + y from by omega]
theorem back_is {x y : Int} {t : Tr} (hf : Fit t) (hr : rightP t = true) (hb : bdV (mvT x y t) = bdV t) : mvT (-x) (-y) (mvT x y t) = t := by
  obtain ⟨_, _, hm⟩ := (right_iff t).1 hr
  have hr2 := right_mv x y hf hr
  exact (mv_back x y hf hm (by unfold bdV at hb; rwa [if_pos hr, if_pos hr2] at hb)).2
theorem sz_on {x y : Int} {t : Tr} (hf : Fit t) (hr : rightP t = true) : szV (mvT x y t) = szV t := by
  obtain ⟨_, _, hm⟩ := (right_iff t).1 hr
  unfold szV
  rw [if_pos hr, if_pos (right_mv x y hf hr), (cnt_mv x y hf hm).1]
theorem bd_on {x y : Int} {t : Tr} (hf : Fit t) (hr : rightP t = true) : bdV t ≤ bdV (mvT x y t) := by
  obtain ⟨_, _, hm⟩ := (right_iff t).1 hr
  unfold bdV
  rw [if_pos hr, if_pos (right_mv x y hf hr)]
  exact (cnt_mv x y hf hm).2
end Go.Proofs.YteflmfifhmlpiaaDoor
