/- Texts joined: TrT, TrU, TrV, TrC, TrD. -/
import Derived.Test.YteflmfifhmlpiaaDoorMa17
import Derived.Test.YteflmfifhmlpiaaDoorMa13
import Derived.Deep.QuietTactic
import Derived.BigQuiet
import Derived.Deep.RegionHeld3
import Derived.Test.YteflmfifhmlpiaaDoorMa08
import Derived.Test.YteflmfifhmlpiaaDoorMa06
set_option linter.all false
set_option linter.unusedVariables false
set_option linter.unusedSimpArgs false
namespace Go.Proofs.YteflmfifhmlpiaaDoor
open Go.RowKit

set_option maxHeartbeats 2000000 in
set_option maxRecDepth 10000 in
theorem rsame_no0 (t u : Tr) (A B : Option Addr) (ca cb : Nat) (w : World) (h0 : (t.kind != u.kind) = true) :
    Calls Tryd.prog 9 #[.agg #[.int .i64 t.kind, .int .i64 t.num, .int .i64 t.c1, .int .i64 t.r1, .int .i64 t.c2, .int .i64 t.r2, .string ⟨t.word.toArray⟩, .slice A t.kids.length ca], .agg #[.int .i64 u.kind, .int .i64 u.num, .int .i64 u.c1, .int .i64 u.r1, .int .i64 u.c2, .int .i64 u.r2, .string ⟨u.word.toArray⟩, .slice B u.kids.length cb]] w fun e w' => e = .returned (.bool false) ∧ Below w.heap.size w w' := by
  have hG := fun op X Y W => guard_range op X Y #[.int .i64 t.c1, .int .i64 t.r1, .int .i64 t.c2, .int .i64 t.r2] #[.int .i64 u.c1, .int .i64 u.r1, .int .i64 u.c2, .int .i64 u.r2] W
  have hN := neq_range t.c1 t.r1 t.c2 t.r2 u.c1 u.r1 u.c2 u.r2
  go_enter Tryd.func9, Tryd.ntmps9
  go_wp2_with fail
  go_ret
  exact ⟨rfl, ((Below.refl _ _).alloc (Nat.le_refl _) _).alloc (by simp) _⟩
set_option maxHeartbeats 2000000 in
set_option maxRecDepth 10000 in
theorem rsame_no1 (t u : Tr) (A B : Option Addr) (ca cb : Nat) (w : World) (h0 : (t.kind != u.kind) = false) (h1 : (t.num != u.num) = true) :
    Calls Tryd.prog 9 #[.agg #[.int .i64 t.kind, .int .i64 t.num, .int .i64 t.c1, .int .i64 t.r1, .int .i64 t.c2, .int .i64 t.r2, .string ⟨t.word.toArray⟩, .slice A t.kids.length ca], .agg #[.int .i64 u.kind, .int .i64 u.num, .int .i64 u.c1, .int .i64 u.r1, .int .i64 u.c2, .int .i64 u.r2, .string ⟨u.word.toArray⟩, .slice B u.kids.length cb]] w fun e w' => e = .returned (.bool false) ∧ Below w.heap.size w w' := by
  have hG := fun op X Y W => guard_range op X Y #[.int .i64 t.c1, .int .i64 t.r1, .int .i64 t.c2, .int .i64 t.r2] #[.int .i64 u.c1, .int .i64 u.r1, .int .i64 u.c2, .int .i64 u.r2] W
  have hN := neq_range t.c1 t.r1 t.c2 t.r2 u.c1 u.r1 u.c2 u.r2
  go_enter Tryd.func9, Tryd.ntmps9
  go_wp2_with fail
  go_ret
  exact ⟨rfl, ((Below.refl _ _).alloc (Nat.le_refl _) _).alloc (by simp) _⟩
set_option maxHeartbeats 2000000 in
set_option maxRecDepth 10000 in
theorem rsame_no2 (t u : Tr) (A B : Option Addr) (ca cb : Nat) (w : World) (h0 : (t.kind != u.kind) = false) (h1 : (t.num != u.num) = false) (h2 : (!(t.c1 == u.c1 && t.r1 == u.r1 && (t.c2 == u.c2 && t.r2 == u.r2))) = true) :
    Calls Tryd.prog 9 #[.agg #[.int .i64 t.kind, .int .i64 t.num, .int .i64 t.c1, .int .i64 t.r1, .int .i64 t.c2, .int .i64 t.r2, .string ⟨t.word.toArray⟩, .slice A t.kids.length ca], .agg #[.int .i64 u.kind, .int .i64 u.num, .int .i64 u.c1, .int .i64 u.r1, .int .i64 u.c2, .int .i64 u.r2, .string ⟨u.word.toArray⟩, .slice B u.kids.length cb]] w fun e w' => e = .returned (.bool false) ∧ Below w.heap.size w w' := by
  have hG := fun op X Y W => guard_range op X Y #[.int .i64 t.c1, .int .i64 t.r1, .int .i64 t.c2, .int .i64 t.r2] #[.int .i64 u.c1, .int .i64 u.r1, .int .i64 u.c2, .int .i64 u.r2] W
  have hN := neq_range t.c1 t.r1 t.c2 t.r2 u.c1 u.r1 u.c2 u.r2
  rw [h2] at hN
  go_enter Tryd.func9, Tryd.ntmps9
  go_wp2_with fail
  go_ret
  exact ⟨rfl, ((Below.refl _ _).alloc (Nat.le_refl _) _).alloc (by simp) _⟩
set_option maxHeartbeats 2000000 in
set_option maxRecDepth 10000 in
theorem rsame_no3 (t u : Tr) (A B : Option Addr) (ca cb : Nat) (w : World) (h0 : (t.kind != u.kind) = false) (h1 : (t.num != u.num) = false) (h2 : (!(t.c1 == u.c1 && t.r1 == u.r1 && (t.c2 == u.c2 && t.r2 == u.r2))) = false) (h3 : (t.word == u.word) = false) :
    Calls Tryd.prog 9 #[.agg #[.int .i64 t.kind, .int .i64 t.num, .int .i64 t.c1, .int .i64 t.r1, .int .i64 t.c2, .int .i64 t.r2, .string ⟨t.word.toArray⟩, .slice A t.kids.length ca], .agg #[.int .i64 u.kind, .int .i64 u.num, .int .i64 u.c1, .int .i64 u.r1, .int .i64 u.c2, .int .i64 u.r2, .string ⟨u.word.toArray⟩, .slice B u.kids.length cb]] w fun e w' => e = .returned (.bool false) ∧ Below w.heap.size w w' := by
  have hG := fun op X Y W => guard_range op X Y #[.int .i64 t.c1, .int .i64 t.r1, .int .i64 t.c2, .int .i64 t.r2] #[.int .i64 u.c1, .int .i64 u.r1, .int .i64 u.c2, .int .i64 u.r2] W
  have hN := neq_range t.c1 t.r1 t.c2 t.r2 u.c1 u.r1 u.c2 u.r2
  rw [h2] at hN
  go_enter Tryd.func9, Tryd.ntmps9
  go_wp2_with fail
  go_ret
  exact ⟨rfl, ((Below.refl _ _).alloc (Nat.le_refl _) _).alloc (by simp) _⟩
set_option maxHeartbeats 2000000 in
set_option maxRecDepth 10000 in
theorem rsame_no4 (t u : Tr) (A B : Option Addr) (ca cb : Nat) (w : World) (h0 : (t.kind != u.kind) = false) (h1 : (t.num != u.num) = false) (h2 : (!(t.c1 == u.c1 && t.r1 == u.r1 && (t.c2 == u.c2 && t.r2 == u.r2))) = false) (h3 : (t.word == u.word) = true) (h4 : ((t.kids.length : Int) != (u.kids.length : Int)) = true) :
    Calls Tryd.prog 9 #[.agg #[.int .i64 t.kind, .int .i64 t.num, .int .i64 t.c1, .int .i64 t.r1, .int .i64 t.c2, .int .i64 t.r2, .string ⟨t.word.toArray⟩, .slice A t.kids.length ca], .agg #[.int .i64 u.kind, .int .i64 u.num, .int .i64 u.c1, .int .i64 u.r1, .int .i64 u.c2, .int .i64 u.r2, .string ⟨u.word.toArray⟩, .slice B u.kids.length cb]] w fun e w' => e = .returned (.bool false) ∧ Below w.heap.size w w' := by
  have hG := fun op X Y W => guard_range op X Y #[.int .i64 t.c1, .int .i64 t.r1, .int .i64 t.c2, .int .i64 t.r2] #[.int .i64 u.c1, .int .i64 u.r1, .int .i64 u.c2, .int .i64 u.r2] W
  have hN := neq_range t.c1 t.r1 t.c2 t.r2 u.c1 u.r1 u.c2 u.r2
  rw [h2] at hN
  go_enter Tryd.func9, Tryd.ntmps9
  go_wp2_with fail
  go_ret
  exact ⟨rfl, ((Below.refl _ _).alloc (Nat.le_refl _) _).alloc (by simp) _⟩
set_option maxHeartbeats 2000000 in
set_option maxRecDepth 10000 in
theorem rsame_yes (d : Nat) (ih : ∀ (t u : Tr), deepT t ≤ d → Wid t → Wid u → ∀ (w : World) (P Q : Nat → Prop) (A B : Option Addr) (ca cb : Nat), KV w P t A → KV w Q u B →
      Calls Tryd.prog 9 #[tv t A ca, tv u B cb] w fun e w' => (∃ b, e = .returned (.bool b) ∧ (b = true ↔ t = u)) ∧ Below w.heap.size w w')
    (t u : Tr) (hd : deepT t ≤ d + 1) (ht : Wid t) (hu : Wid u) (w : World) (P Q : Nat → Prop) (A B : Option Addr) (ca cb : Nat) (hA : KV w P t A) (hB : KV w Q u B) (h0 : (t.kind != u.kind) = false) (h1 : (t.num != u.num) = false) (h2 : (!(t.c1 == u.c1 && t.r1 == u.r1 && (t.c2 == u.c2 && t.r2 == u.r2))) = false) (h3 : (t.word == u.word) = true) (h4 : ((t.kids.length : Int) != (u.kids.length : Int)) = false) :
    Calls Tryd.prog 9 #[.agg #[.int .i64 t.kind, .int .i64 t.num, .int .i64 t.c1, .int .i64 t.r1, .int .i64 t.c2, .int .i64 t.r2, .string ⟨t.word.toArray⟩, .slice A t.kids.length ca], .agg #[.int .i64 u.kind, .int .i64 u.num, .int .i64 u.c1, .int .i64 u.r1, .int .i64 u.c2, .int .i64 u.r2, .string ⟨u.word.toArray⟩, .slice B u.kids.length cb]] w fun e w' => (∃ b, e = .returned (.bool b) ∧ (b = true ↔ t.kids = u.kids)) ∧ Below w.heap.size w w' := by
  have hG := fun op X Y W => guard_range op X Y #[.int .i64 t.c1, .int .i64 t.r1, .int .i64 t.c2, .int .i64 t.r2] #[.int .i64 u.c1, .int .i64 u.r1, .int .i64 u.c2, .int .i64 u.r2] W
  have hN := neq_range t.c1 t.r1 t.c2 t.r2 u.c1 u.r1 u.c2 u.r2
  rw [h2] at hN
  have hlen := ht.len
  unfold maxLen at hlen
  have hll : t.kids.length = u.kids.length := by have h4' := h4; rw [bne_eq_false_iff_eq] at h4'; omega
  have HT := Lib.hid ht
  have HU := Lib.hid hu
  have HA := Lib.hid hA
  have HB := Lib.hid hB
  have HI := Lib.hid ih
  have HLL := Lib.hid hll
  have hdl : deepL t.kids ≤ d := by rw [deep_eq] at hd; omega
  clear ih hd ht hu hA hB hll
  go_enter Tryd.func9, Tryd.ntmps9
  go_wp2_with fail
  go_loopw [5] (fun vi wr => ∃ i : Nat, i ≤ t.kids.length ∧ vi = .int .i64 (i : Int) ∧ Hid (t.kids.take i = u.kids.take i) ∧ Below w.heap.size w wr ∧ w.heap.size + 1 < wr.heap.size ∧ wr.cell? ⟨w.heap.size, 7, none⟩ = some (.slice A t.kids.length ca) ∧ wr.cell? ⟨w.heap.size + 1, 7, none⟩ = some (.slice B u.kids.length cb)) (fun vi _ => t.kids.length - (intOf vi).toNat)
  case atStart => exact ⟨0, Nat.zero_le _, rfl, Lib.hid rfl, ((Below.refl _ _).alloc (Nat.le_refl _) _).alloc (by simp) _, by simp, by simp [go_sem], by simp [go_sem]⟩
  case round =>
    obtain ⟨i, hi, rfl, HTK, hbel, hsz, c7, e7⟩ := hrel
    by_cases hlt : i < t.kids.length
    · have hlt2 : i < u.kids.length := by have := HLL.out; omega
      have ha : t.kids[i]? = some (t.kids[i]'hlt) := List.getElem?_eq_getElem hlt
      have hb : u.kids[i]? = some (u.kids[i]'hlt2) := List.getElem?_eq_getElem hlt2
      obtain ⟨g, o, rfl⟩ := HA.out.addr ha
      obtain ⟨g2, o2, rfl⟩ := HB.out.addr hb
      obtain ⟨hg, A', ca', h8, hkv⟩ := HA.out.kidAt hbel ha
      obtain ⟨hg2, B', cb', k8, hkw⟩ := HB.out.kidAt hbel hb
      have HTE := Lib.hid fun e => take_eq ha hb HTK.out e
      have HNE := Lib.hid (And.intro ha hb)
      have HC := Lib.hid (HI.out _ _ (Nat.le_trans (deep_kid ha) hdl) (HT.out.kid ha) (HU.out.kid hb) wr.drew _ _ A' B' ca' cb' (hkv.kept (Kept.drew (Kept.refl _ _))) (hkw.kept (Kept.drew (Kept.refl _ _))))
      generalize t.kids[i]'hlt = x at *
      generalize u.kids[i]'hlt2 = y at *
      unfold At8 at h8 k8
      unfold tv at HC
      obtain ⟨q0, q1, q2, q3, q4, q5, q6, q7⟩ := h8
      obtain ⟨r0, r1, r2, r3, r4, r5, r6, r7⟩ := k8
      clear hkv hkw ha hb
      go_wp2_with fail
      go_region_held3 (fun w' => w'.cell? ⟨g, o + i * 8, none⟩ = some (.int .i64 x.kind) ∧ w'.cell? ⟨g, o + i * 8 + 1, none⟩ = some (.int .i64 x.num) ∧ w'.cell? ⟨g, o + i * 8 + 2, none⟩ = some (.int .i64 x.c1) ∧ w'.cell? ⟨g, o + i * 8 + 3, none⟩ = some (.int .i64 x.r1) ∧ w'.cell? ⟨g, o + i * 8 + 4, none⟩ = some (.int .i64 x.c2) ∧ w'.cell? ⟨g, o + i * 8 + 5, none⟩ = some (.int .i64 x.r2) ∧ w'.cell? ⟨g, o + i * 8 + 6, none⟩ = some (.string ⟨x.word.toArray⟩) ∧ w'.cell? ⟨g, o + i * 8 + 7, none⟩ = some (.slice A' x.kids.length ca') ∧ w'.cell? ⟨g2, o2 + i * 8, none⟩ = some (.int .i64 y.kind) ∧ w'.cell? ⟨g2, o2 + i * 8 + 1, none⟩ = some (.int .i64 y.num) ∧ w'.cell? ⟨g2, o2 + i * 8 + 2, none⟩ = some (.int .i64 y.c1) ∧ w'.cell? ⟨g2, o2 + i * 8 + 3, none⟩ = some (.int .i64 y.r1) ∧ w'.cell? ⟨g2, o2 + i * 8 + 4, none⟩ = some (.int .i64 y.c2) ∧ w'.cell? ⟨g2, o2 + i * 8 + 5, none⟩ = some (.int .i64 y.r2) ∧ w'.cell? ⟨g2, o2 + i * 8 + 6, none⟩ = some (.string ⟨y.word.toArray⟩) ∧ w'.cell? ⟨g2, o2 + i * 8 + 7, none⟩ = some (.slice B' y.kids.length cb') ∧ w'.cell? ⟨w.heap.size, 7, none⟩ = some (.slice (some ⟨g, o, none⟩) t.kids.length ca) ∧ w'.cell? ⟨w.heap.size + 1, 7, none⟩ = some (.slice (some ⟨g2, o2, none⟩) u.kids.length cb))
        (first | (simp only [World.cell?_drew]; with_reducible exact ⟨q0, q1, q2, q3, q4, q5, q6, q7, r0, r1, r2, r3, r4, r5, r6, r7, c7, e7⟩) | with_reducible exact ⟨mq0, mq1, mq2, mq3, mq4, mq5, mq6, mq7, mr0, mr1, mr2, mr3, mr4, mr5, mr6, mr7, mc7, me7⟩ | fail)
        (first
        | (go_at_call 9; refine HC.out.mono ?_; rintro e w1 ⟨⟨b, rfl, hbb⟩, b1'⟩
           have b1 : Below wr.heap.size wr w1 := (Below.refl _ wr).drew.trans b1'
           have mq0 := keep_cell b1 q0
           have mq1 := keep_cell b1 q1
           have mq2 := keep_cell b1 q2
           have mq3 := keep_cell b1 q3
           have mq4 := keep_cell b1 q4
           have mq5 := keep_cell b1 q5
           have mq6 := keep_cell b1 q6
           have mq7 := keep_cell b1 q7
           have mr0 := keep_cell b1 r0
           have mr1 := keep_cell b1 r1
           have mr2 := keep_cell b1 r2
           have mr3 := keep_cell b1 r3
           have mr4 := keep_cell b1 r4
           have mr5 := keep_cell b1 r5
           have mr6 := keep_cell b1 r6
           have mr7 := keep_cell b1 r7
           have mc7 := keep_cell b1 c7
           have me7 := keep_cell b1 e7)
        | fail)
      have s7 : w.heap.size + 1 < w1.heap.size := Nat.lt_of_lt_of_le hsz b1.size
      have hb1 := hbel.trans (b1.mono hbel.size)
      clear b1 b1' q0 q1 q2 q3 q4 q5 q6 q7 r0 r1 r2 r3 r4 r5 r6 r7 c7 e7 mq0 mq1 mq2 mq3 mq4 mq5 mq6 mq7 mr0 mr1 mr2 mr3 mr4 mr5 mr6 mr7
      cases b with
      | true =>
        have HXY := Lib.hid (HTE.out (hbb.1 rfl))
        clear hbb
        go_wp2_with fail
        go_roundw
        case rel => exact ⟨i + 1, by omega, by go_num, HXY, hb1, s7, mc7, me7⟩
        case measure => simp [intOf]; omega
      | false =>
        have hxy : ¬ x = y := fun e => by have := hbb.2 e; cases this
        have hk : ¬ t.kids = u.kids := fun e => by
          have h1 := HNE.out.1
          rw [e, HNE.out.2] at h1
          exact hxy (Option.some.inj h1).symm
        have HK := Lib.hid hk
        clear hbb hxy hk
        go_wp2_with fail
        go_ret
        exact ⟨⟨false, rfl, ⟨fun h => (by cases h), fun h => absurd h HK.out⟩⟩, hb1⟩
    · have hii : i = t.kids.length := by omega
      subst hii
      have hk : t.kids = u.kids := by
        have := HTK.out
        rw [List.take_length, HLL.out, List.take_length] at this
        exact this
      have HK := Lib.hid hk
      clear hk
      go_wp2_with fail
      go_ret
      exact ⟨⟨true, rfl, ⟨fun _ => HK.out, fun _ => rfl⟩⟩, hbel⟩
theorem rsame_any : ∀ (d : Nat) (t u : Tr), deepT t ≤ d → Wid t → Wid u → ∀ (w : World) (P Q : Nat → Prop) (A B : Option Addr) (ca cb : Nat), KV w P t A → KV w Q u B →
    Calls Tryd.prog 9 #[tv t A ca, tv u B cb] w fun e w' => (∃ b, e = .returned (.bool b) ∧ (b = true ↔ t = u)) ∧ Below w.heap.size w w' := by
  intro d
  induction d with
  | zero => intro t u h; rw [deep_eq] at h; omega
  | succ d ih =>
    intro t u hd ht hu w P Q A B ca cb hA hB
    have NO : ¬ t = u → ∀ {e : Ending} {w' : World}, e = .returned (.bool false) ∧ Below w.heap.size w w' → (∃ b, e = .returned (.bool b) ∧ (b = true ↔ t = u)) ∧ Below w.heap.size w w' :=
      fun hne _ _ ⟨he, hb⟩ => ⟨⟨false, he, ⟨fun h => (by cases h), fun h => absurd h hne⟩⟩, hb⟩
    by_cases h0 : t.kind = u.kind
    · by_cases h1 : t.num = u.num
      · by_cases h2 : t.c1 = u.c1 ∧ t.r1 = u.r1 ∧ t.c2 = u.c2 ∧ t.r2 = u.r2
        · by_cases h3 : t.word = u.word
          · by_cases h4 : t.kids.length = u.kids.length
            · obtain ⟨e1, e2, e3, e4⟩ := h2
              refine (rsame_yes d ih t u hd ht hu w P Q A B ca cb hA hB (by simp [h0]) (by simp [h1]) (by simp [e1, e2, e3, e4]) (by simp [h3]) (by simp [h4])).mono fun e w' ⟨⟨b, he, hb⟩, hw⟩ => ⟨⟨b, he, hb.trans ⟨fun h => tr_ext h0 h1 e1 e2 e3 e4 h3 h, fun h => by rw [h]⟩⟩, hw⟩
            · exact (rsame_no4 t u A B ca cb w (by simp [h0]) (by simp [h1]) (by simp [h2]) (by simp [h3]) (by rw [bne_iff_ne]; omega)).mono fun _ _ h => NO (fun e => h4 (by rw [e])) h
          · exact (rsame_no3 t u A B ca cb w (by simp [h0]) (by simp [h1]) (by simp [h2]) (by simp [h3])).mono fun _ _ h => NO (fun e => h3 (by rw [e])) h
        · exact (rsame_no2 t u A B ca cb w (by simp [h0]) (by simp [h1]) (by rw [Bool.not_eq_true']; rw [Bool.eq_false_iff]; intro h; simp at h; exact h2 ⟨h.1.1, h.1.2, h.2.1, h.2.2⟩)).mono fun _ _ h => NO (fun e => h2 (by rw [e]; simp)) h
      · exact (rsame_no1 t u A B ca cb w (by simp [h0]) (by simp [h1])).mono fun _ _ h => NO (fun e => h1 (by rw [e])) h
    · exact (rsame_no0 t u A B ca cb w (by simp [h0])).mono fun _ _ h => NO (fun e => h0 (by rw [e])) h
end Go.Proofs.YteflmfifhmlpiaaDoor
namespace Go.Proofs.YteflmfifhmlpiaaDoor
open Go.RowKit

set_option maxHeartbeats 4000000 in
set_option maxRecDepth 10000 in
theorem ronly_at (t : Tr) (A : Option Addr) (cap : Nat) (n : Int) (w : World) (B0 N0 B1 B6 AT B4 B5 W0 LN : Bool) (h0 : (t.kind == 0) = B0) (hn : (t.num == 0) = N0) (h1 : (t.kind == 1) = B1) (h6 : (t.kind == 6) = B6)
    (hA : ∀ W, (binOp .eql 26 (.agg #[.int .i64 t.c1, .int .i64 t.r1, .int .i64 t.c2, .int .i64 t.r2]) (.agg #[.int .i64 0, .int .i64 0, .int .i64 0, .int .i64 0])).run Tryd.prog W = .ok (.bool AT) W)
    (h4 : (t.kind == 4) = B4) (h5 : (t.kind == 5) = B5) (hw : (t.word == []) = W0) (hl : ((t.kids.length : Int) == n) = LN) :
    Calls Tryd.prog 56 #[.agg #[.int .i64 t.kind, .int .i64 t.num, .int .i64 t.c1, .int .i64 t.r1, .int .i64 t.c2, .int .i64 t.r2, .string ⟨t.word.toArray⟩, .slice A t.kids.length cap], .int .i64 n] w fun e w' => e = .returned (.bool ((B0 || N0) && ((B1 || (B6 || AT)) && ((B4 || (B5 || W0)) && LN)))) ∧ Below w.heap.size w w' := by
  have hG := fun op X Y W => guard_range op X Y #[.int .i64 t.c1, .int .i64 t.r1, .int .i64 t.c2, .int .i64 t.r2] #[.int .i64 0, .int .i64 0, .int .i64 0, .int .i64 0] W
  cases B0 with
  | true =>
    cases B1 with
    | true =>
      cases B4 with
      | true =>
        cases LN with
        | true =>
          go_enter Tryd.func56, Tryd.ntmps56
          go_wp2_with fail
          go_ret
          exact ⟨rfl, (Below.refl _ _).alloc (Nat.le_refl _) _⟩
        | false =>
          go_enter Tryd.func56, Tryd.ntmps56
          go_wp2_with fail
          go_ret
          exact ⟨rfl, (Below.refl _ _).alloc (Nat.le_refl _) _⟩
      | false =>
        cases B5 with
        | true =>
          cases LN with
          | true =>
            go_enter Tryd.func56, Tryd.ntmps56
            go_wp2_with fail
            go_ret
            exact ⟨rfl, (Below.refl _ _).alloc (Nat.le_refl _) _⟩
          | false =>
            go_enter Tryd.func56, Tryd.ntmps56
            go_wp2_with fail
            go_ret
            exact ⟨rfl, (Below.refl _ _).alloc (Nat.le_refl _) _⟩
        | false =>
          cases W0 with
          | true =>
            cases LN with
            | true =>
              go_enter Tryd.func56, Tryd.ntmps56
              go_wp2_with fail
              go_ret
              exact ⟨rfl, (Below.refl _ _).alloc (Nat.le_refl _) _⟩
            | false =>
              go_enter Tryd.func56, Tryd.ntmps56
              go_wp2_with fail
              go_ret
              exact ⟨rfl, (Below.refl _ _).alloc (Nat.le_refl _) _⟩
          | false =>
            go_enter Tryd.func56, Tryd.ntmps56
            go_wp2_with fail
            go_ret
            exact ⟨rfl, (Below.refl _ _).alloc (Nat.le_refl _) _⟩
    | false =>
      cases B6 with
      | true =>
        cases B4 with
        | true =>
          cases LN with
          | true =>
            go_enter Tryd.func56, Tryd.ntmps56
            go_wp2_with fail
            go_ret
            exact ⟨rfl, (Below.refl _ _).alloc (Nat.le_refl _) _⟩
          | false =>
            go_enter Tryd.func56, Tryd.ntmps56
            go_wp2_with fail
            go_ret
            exact ⟨rfl, (Below.refl _ _).alloc (Nat.le_refl _) _⟩
        | false =>
          cases B5 with
          | true =>
            cases LN with
            | true =>
              go_enter Tryd.func56, Tryd.ntmps56
              go_wp2_with fail
              go_ret
              exact ⟨rfl, (Below.refl _ _).alloc (Nat.le_refl _) _⟩
            | false =>
              go_enter Tryd.func56, Tryd.ntmps56
              go_wp2_with fail
              go_ret
              exact ⟨rfl, (Below.refl _ _).alloc (Nat.le_refl _) _⟩
          | false =>
            cases W0 with
            | true =>
              cases LN with
              | true =>
                go_enter Tryd.func56, Tryd.ntmps56
                go_wp2_with fail
                go_ret
                exact ⟨rfl, (Below.refl _ _).alloc (Nat.le_refl _) _⟩
              | false =>
                go_enter Tryd.func56, Tryd.ntmps56
                go_wp2_with fail
                go_ret
                exact ⟨rfl, (Below.refl _ _).alloc (Nat.le_refl _) _⟩
            | false =>
              go_enter Tryd.func56, Tryd.ntmps56
              go_wp2_with fail
              go_ret
              exact ⟨rfl, (Below.refl _ _).alloc (Nat.le_refl _) _⟩
      | false =>
        cases AT with
        | true =>
          cases B4 with
          | true =>
            cases LN with
            | true =>
              go_enter Tryd.func56, Tryd.ntmps56
              go_wp2_with fail
              go_ret
              exact ⟨rfl, (Below.refl _ _).alloc (Nat.le_refl _) _⟩
            | false =>
              go_enter Tryd.func56, Tryd.ntmps56
              go_wp2_with fail
              go_ret
              exact ⟨rfl, (Below.refl _ _).alloc (Nat.le_refl _) _⟩
          | false =>
            cases B5 with
            | true =>
              cases LN with
              | true =>
                go_enter Tryd.func56, Tryd.ntmps56
                go_wp2_with fail
                go_ret
                exact ⟨rfl, (Below.refl _ _).alloc (Nat.le_refl _) _⟩
              | false =>
                go_enter Tryd.func56, Tryd.ntmps56
                go_wp2_with fail
                go_ret
                exact ⟨rfl, (Below.refl _ _).alloc (Nat.le_refl _) _⟩
            | false =>
              cases W0 with
              | true =>
                cases LN with
                | true =>
                  go_enter Tryd.func56, Tryd.ntmps56
                  go_wp2_with fail
                  go_ret
                  exact ⟨rfl, (Below.refl _ _).alloc (Nat.le_refl _) _⟩
                | false =>
                  go_enter Tryd.func56, Tryd.ntmps56
                  go_wp2_with fail
                  go_ret
                  exact ⟨rfl, (Below.refl _ _).alloc (Nat.le_refl _) _⟩
              | false =>
                go_enter Tryd.func56, Tryd.ntmps56
                go_wp2_with fail
                go_ret
                exact ⟨rfl, (Below.refl _ _).alloc (Nat.le_refl _) _⟩
        | false =>
          go_enter Tryd.func56, Tryd.ntmps56
          go_wp2_with fail
          go_ret
          exact ⟨rfl, (Below.refl _ _).alloc (Nat.le_refl _) _⟩
  | false =>
    cases N0 with
    | true =>
      cases B1 with
      | true =>
        cases B4 with
        | true =>
          cases LN with
          | true =>
            go_enter Tryd.func56, Tryd.ntmps56
            go_wp2_with fail
            go_ret
            exact ⟨rfl, (Below.refl _ _).alloc (Nat.le_refl _) _⟩
          | false =>
            go_enter Tryd.func56, Tryd.ntmps56
            go_wp2_with fail
            go_ret
            exact ⟨rfl, (Below.refl _ _).alloc (Nat.le_refl _) _⟩
        | false =>
          cases B5 with
          | true =>
            cases LN with
            | true =>
              go_enter Tryd.func56, Tryd.ntmps56
              go_wp2_with fail
              go_ret
              exact ⟨rfl, (Below.refl _ _).alloc (Nat.le_refl _) _⟩
            | false =>
              go_enter Tryd.func56, Tryd.ntmps56
              go_wp2_with fail
              go_ret
              exact ⟨rfl, (Below.refl _ _).alloc (Nat.le_refl _) _⟩
          | false =>
            cases W0 with
            | true =>
              cases LN with
              | true =>
                go_enter Tryd.func56, Tryd.ntmps56
                go_wp2_with fail
                go_ret
                exact ⟨rfl, (Below.refl _ _).alloc (Nat.le_refl _) _⟩
              | false =>
                go_enter Tryd.func56, Tryd.ntmps56
                go_wp2_with fail
                go_ret
                exact ⟨rfl, (Below.refl _ _).alloc (Nat.le_refl _) _⟩
            | false =>
              go_enter Tryd.func56, Tryd.ntmps56
              go_wp2_with fail
              go_ret
              exact ⟨rfl, (Below.refl _ _).alloc (Nat.le_refl _) _⟩
      | false =>
        cases B6 with
        | true =>
          cases B4 with
          | true =>
            cases LN with
            | true =>
              go_enter Tryd.func56, Tryd.ntmps56
              go_wp2_with fail
              go_ret
              exact ⟨rfl, (Below.refl _ _).alloc (Nat.le_refl _) _⟩
            | false =>
              go_enter Tryd.func56, Tryd.ntmps56
              go_wp2_with fail
              go_ret
              exact ⟨rfl, (Below.refl _ _).alloc (Nat.le_refl _) _⟩
          | false =>
            cases B5 with
            | true =>
              cases LN with
              | true =>
                go_enter Tryd.func56, Tryd.ntmps56
                go_wp2_with fail
                go_ret
                exact ⟨rfl, (Below.refl _ _).alloc (Nat.le_refl _) _⟩
              | false =>
                go_enter Tryd.func56, Tryd.ntmps56
                go_wp2_with fail
                go_ret
                exact ⟨rfl, (Below.refl _ _).alloc (Nat.le_refl _) _⟩
            | false =>
              cases W0 with
              | true =>
                cases LN with
                | true =>
                  go_enter Tryd.func56, Tryd.ntmps56
                  go_wp2_with fail
                  go_ret
                  exact ⟨rfl, (Below.refl _ _).alloc (Nat.le_refl _) _⟩
                | false =>
                  go_enter Tryd.func56, Tryd.ntmps56
                  go_wp2_with fail
                  go_ret
                  exact ⟨rfl, (Below.refl _ _).alloc (Nat.le_refl _) _⟩
              | false =>
                go_enter Tryd.func56, Tryd.ntmps56
                go_wp2_with fail
                go_ret
                exact ⟨rfl, (Below.refl _ _).alloc (Nat.le_refl _) _⟩
        | false =>
          cases AT with
          | true =>
            cases B4 with
            | true =>
              cases LN with
              | true =>
                go_enter Tryd.func56, Tryd.ntmps56
                go_wp2_with fail
                go_ret
                exact ⟨rfl, (Below.refl _ _).alloc (Nat.le_refl _) _⟩
              | false =>
                go_enter Tryd.func56, Tryd.ntmps56
                go_wp2_with fail
                go_ret
                exact ⟨rfl, (Below.refl _ _).alloc (Nat.le_refl _) _⟩
            | false =>
              cases B5 with
              | true =>
                cases LN with
                | true =>
                  go_enter Tryd.func56, Tryd.ntmps56
                  go_wp2_with fail
                  go_ret
                  exact ⟨rfl, (Below.refl _ _).alloc (Nat.le_refl _) _⟩
                | false =>
                  go_enter Tryd.func56, Tryd.ntmps56
                  go_wp2_with fail
                  go_ret
                  exact ⟨rfl, (Below.refl _ _).alloc (Nat.le_refl _) _⟩
              | false =>
                cases W0 with
                | true =>
                  cases LN with
                  | true =>
                    go_enter Tryd.func56, Tryd.ntmps56
                    go_wp2_with fail
                    go_ret
                    exact ⟨rfl, (Below.refl _ _).alloc (Nat.le_refl _) _⟩
                  | false =>
                    go_enter Tryd.func56, Tryd.ntmps56
                    go_wp2_with fail
                    go_ret
                    exact ⟨rfl, (Below.refl _ _).alloc (Nat.le_refl _) _⟩
                | false =>
                  go_enter Tryd.func56, Tryd.ntmps56
                  go_wp2_with fail
                  go_ret
                  exact ⟨rfl, (Below.refl _ _).alloc (Nat.le_refl _) _⟩
          | false =>
            go_enter Tryd.func56, Tryd.ntmps56
            go_wp2_with fail
            go_ret
            exact ⟨rfl, (Below.refl _ _).alloc (Nat.le_refl _) _⟩
    | false =>
      go_enter Tryd.func56, Tryd.ntmps56
      go_wp2_with fail
      go_ret
      exact ⟨rfl, (Below.refl _ _).alloc (Nat.le_refl _) _⟩
theorem ronly_any (t : Tr) (A : Option Addr) (cap n : Nat) (w : World) :
    Calls Tryd.prog 56 #[tv t A cap, .int .i64 (n : Int)] w fun e w' => e = .returned (.bool (onlyB t n)) ∧ Below w.heap.size w w' := by
  refine (ronly_at t A cap (n : Int) w _ _ _ _ _ _ _ _ _ rfl rfl rfl rfl (fun W => eql_range _ _ _ _ _ _ _ _ W) rfl rfl rfl rfl).mono fun e w' ⟨he, hb⟩ => ⟨he.trans (ret_bool ?_), hb⟩
  cases t with
  | mk k num c r d s wd ks =>
    unfold onlyB
    simp only [Tr.kind, Tr.num, Tr.c1, Tr.r1, Tr.c2, Tr.r2, Tr.word, Tr.kids]
    have e : ((ks.length : Int) == (n : Int)) = (ks.length == n) := by rw [Bool.eq_iff_iff, beq_iff_eq, beq_iff_eq]; omega
    rw [e]
    simp only [Bool.or_assoc, Bool.and_assoc]
end Go.Proofs.YteflmfifhmlpiaaDoor
namespace Go.Proofs.YteflmfifhmlpiaaDoor
open Go.RowKit

def kidB (x : Tr) (spans corners : Bool) : Bool := mayB x && ((spans || x.kind != 6) && (!corners || x.kind == 6 || x.kind == 2))
theorem all_cons (t : Tr) (ts : List Tr) (a b : Bool) : allB (t :: ts) a b = (kidB t a b && allB ts a b) := by rw [allB]; rfl
theorem all_nil (a b : Bool) : allB [] a b = true := by rw [allB]
theorem all_snoc : ∀ (ks : List Tr) (u : Tr) (a b : Bool), allB (ks ++ [u]) a b = (allB ks a b && kidB u a b)
  | [], u, a, b => by simp only [List.nil_append]; rw [all_cons, all_nil, Bool.and_true, Bool.true_and]
  | t :: ts, u, a, b => by simp only [List.cons_append]; rw [all_cons, all_cons, all_snoc ts u a b, Bool.and_assoc]
theorem all_take {ks : List Tr} {i : Nat} {u : Tr} {a b : Bool} (h : ks[i]? = some u) (ha : allB (ks.take i) a b = true) (hu : kidB u a b = true) : allB (ks.take (i + 1)) a b = true := by
  rw [List.take_add_one, h]
  exact (all_snoc _ _ _ _).trans (by rw [ha, hu]; rfl)
theorem all_bad : ∀ {ks : List Tr} {i : Nat} {u : Tr} {a b : Bool}, ks[i]? = some u → kidB u a b = false → allB ks a b = false
  | [], i, u, a, b, h, _ => by simp at h
  | t :: ts, 0, u, a, b, h, hu => by simp at h; subst h; rw [all_cons, hu, Bool.false_and]
  | t :: ts, i + 1, u, a, b, h, hu => by rw [all_cons, all_bad (ks := ts) (i := i) (by simpa using h) hu, Bool.and_false]
theorem kids_deep {t : Tr} {d : Nat} (h : deepT t ≤ d + 1) : deepL t.kids ≤ d := by rw [deep_eq] at h; omega
def MayC (d : Nat) : Prop := ∀ (t : Tr), deepT t ≤ d → Wid t → ∀ (w : World) (P : Nat → Prop) (A : Option Addr) (cap : Nat), KV w P t A →
    Calls Tryd.prog 38 #[tv t A cap] w fun e w' => e = .returned (.bool (mayB t)) ∧ Below w.heap.size w w'
set_option maxHeartbeats 4000000 in
set_option maxRecDepth 10000 in
theorem rall_any {d : Nat} (ih : MayC d) (t : Tr) (hd : deepL t.kids ≤ d) (hw : Wid t) (a b : Bool) (w : World) (P : Nat → Prop) (A : Option Addr) (cap : Nat) (hk : KV w P t A) :
    Calls Tryd.prog 58 #[tv t A cap, .bool a, .bool b] w fun e w' => e = .returned (.bool (allB t.kids a b)) ∧ Below w.heap.size w w' := by
  unfold tv
  have hlen := hw.len
  unfold maxLen at hlen
  have HW := Lib.hid hw
  have HK := Lib.hid hk
  have HI := Lib.hid ih
  clear hk ih hw
  go_enter Tryd.func58, Tryd.ntmps58
  go_wp2_with fail
  go_loopw [7] (fun vi wr => ∃ i : Nat, i ≤ t.kids.length ∧ vi = .int .i64 (i : Int) ∧ Hid (allB (t.kids.take i) a b = true) ∧ Below w.heap.size w wr ∧ w.heap.size < wr.heap.size ∧ wr.cell? ⟨w.heap.size, 7, none⟩ = some (.slice A t.kids.length cap)) (fun vi _ => t.kids.length - (intOf vi).toNat)
  case atStart => exact ⟨0, Nat.zero_le _, rfl, Lib.hid (by rw [List.take_zero]; exact all_nil _ _), (Below.refl _ _).alloc (Nat.le_refl _) _, by simp, by simp [go_sem]⟩
  case round =>
    obtain ⟨i, hi, rfl, HTK, hbel, hsz, c7⟩ := hrel
    by_cases hlt : i < t.kids.length
    · have hu : t.kids[i]? = some (t.kids[i]'hlt) := List.getElem?_eq_getElem hlt
      obtain ⟨g, o, rfl⟩ := HK.out.addr hu
      obtain ⟨hg, A', cap', h8, hkv⟩ := HK.out.kidAt hbel hu
      have HTE := Lib.hid fun e => all_take (a := a) (b := b) hu HTK.out e
      have HTB := Lib.hid fun e => all_bad (a := a) (b := b) hu e
      have hdu := Nat.le_trans (deep_kid hu) hd
      have hwu := HW.out.kid hu
      generalize t.kids[i]'hlt = x at *
      have HC := Lib.hid (HI.out x hdu hwu (wr.alloc (.cells #[.int .i64 x.kind, .int .i64 x.num, .int .i64 x.c1, .int .i64 x.r1, .int .i64 x.c2, .int .i64 x.r2, .string ⟨x.word.toArray⟩, .slice A' x.kids.length cap'] 29)) _ A' cap' (hkv.kept (Kept.alloc (Kept.refl _ _) _)))
      unfold At8 at h8
      unfold tv at HC
      obtain ⟨q0, q1, q2, q3, q4, q5, q6, q7⟩ := h8
      clear hkv hu hdu hwu
      have HKB : Hid (kidB x a b = (mayB x && ((a || x.kind != 6) && (!b || x.kind == 6 || x.kind == 2)))) := Lib.hid rfl
      go_wp2_with fail
      refine HC.out.mono ?_; rintro e w1 ⟨rfl, b1⟩
      have e7 := keep_cell b1 (p := ⟨w.heap.size, 7, none⟩) (kc_alloc c7 _)
      have e0 := keep_fresh b1 0 (v := .int .i64 x.kind) rfl
      have s7 : w.heap.size < w1.heap.size := by have := b1.size; simp at this; omega
      have hb1 : Below w.heap.size w w1 := (hbel.alloc hbel.size _).trans (b1.mono (by have := hbel.size; simp; omega))
      clear b1 c7 q0 q1 q2 q3 q4 q5 q6 q7
      generalize mayB x = M at *
      cases M with
      | false =>
        have HF := Lib.hid (HTB.out (by rw [HKB.out]; rfl))
        clear HTE HTB HKB
        go_wp2_with fail
        go_ret
        exact ⟨by rw [HF.out]; rfl, hb1⟩
      | true =>
        have m6 : (x.kind != 6) = !(x.kind == 6) := rfl
        have m2 : (x.kind != 2) = !(x.kind == 2) := rfl
        cases h6 : (x.kind == 6) with
        | true =>
          rw [h6] at m6
          cases a with
          | false =>
            have HF := Lib.hid (HTB.out (by rw [HKB.out, m6]; rfl))
            clear HTE HTB HKB
            go_wp2_with fail
            go_ret
            exact ⟨by rw [HF.out]; rfl, hb1⟩
          | true =>
            cases b with
            | false =>
              have HG := Lib.hid (HTE.out (by rw [HKB.out, m6]; rfl))
              clear HTE HTB HKB
              go_wp2_with fail
              go_roundw
              case rel => exact ⟨i + 1, by omega, by go_num, HG, hb1, s7, e7⟩
              case measure => simp [intOf]; omega
            | true =>
              have HG := Lib.hid (HTE.out (by rw [HKB.out, m6, h6]; rfl))
              clear HTE HTB HKB
              go_wp2_with fail
              go_roundw
              case rel => exact ⟨i + 1, by omega, by go_num, HG, hb1, s7, e7⟩
              case measure => simp [intOf]; omega
        | false =>
          rw [h6] at m6
          cases b with
          | false =>
            cases a with
            | false =>
              have HG := Lib.hid (HTE.out (by rw [HKB.out, m6]; rfl))
              clear HTE HTB HKB
              go_wp2_with fail
              go_roundw
              case rel => exact ⟨i + 1, by omega, by go_num, HG, hb1, s7, e7⟩
              case measure => simp [intOf]; omega
            | true =>
              have HG := Lib.hid (HTE.out (by rw [HKB.out, m6]; rfl))
              clear HTE HTB HKB
              go_wp2_with fail
              go_roundw
              case rel => exact ⟨i + 1, by omega, by go_num, HG, hb1, s7, e7⟩
              case measure => simp [intOf]; omega
          | true =>
            cases h2 : (x.kind == 2) with
            | true =>
              rw [h2] at m2
              cases a with
              | false =>
                have HG := Lib.hid (HTE.out (by rw [HKB.out, m6, h6, h2]; rfl))
                clear HTE HTB HKB
                go_wp2_with fail
                go_roundw
                case rel => exact ⟨i + 1, by omega, by go_num, HG, hb1, s7, e7⟩
                case measure => simp [intOf]; omega
              | true =>
                have HG := Lib.hid (HTE.out (by rw [HKB.out, m6, h6, h2]; rfl))
                clear HTE HTB HKB
                go_wp2_with fail
                go_roundw
                case rel => exact ⟨i + 1, by omega, by go_num, HG, hb1, s7, e7⟩
                case measure => simp [intOf]; omega
            | false =>
              rw [h2] at m2
              cases a with
              | false =>
                have HF := Lib.hid (HTB.out (by rw [HKB.out, m6, h6, h2]; rfl))
                clear HTE HTB HKB
                go_wp2_with fail
                go_ret
                exact ⟨by rw [HF.out]; rfl, hb1⟩
              | true =>
                have HF := Lib.hid (HTB.out (by rw [HKB.out, m6, h6, h2]; rfl))
                clear HTE HTB HKB
                go_wp2_with fail
                go_ret
                exact ⟨by rw [HF.out]; rfl, hb1⟩
    · have hii : i = t.kids.length := by omega
      subst hii
      have hz : allB t.kids a b = true := by have := HTK.out; rwa [List.take_length] at this
      have HZ := Lib.hid hz
      clear hz
      go_wp2_with fail
      go_ret
      exact ⟨by rw [HZ.out]; rfl, hbel⟩
end Go.Proofs.YteflmfifhmlpiaaDoor
namespace Go.Proofs.YteflmfifhmlpiaaDoor

inductive St where
  | run (p : Nat)
  | out (x : Nat)
abbrev Got := St × Option Tr
def toS : Option Res → Option Got
  | none => none
  | some (.ok t q) => some (.run q, some t)
  | some (.bad x) => some (.out x, none)
def goS (f : Nat → Option Res) : St → Option Got
  | .out x => some (.out x, none)
  | .run p => toS (f p)
def mustS (L : List Tok) (E : Nat) (s : List UInt8) : St → St
  | .out x => .out x
  | .run p => if isMark L p s = true then .run (p + 1) else .out (whr L E p)
def markR (L : List Tok) (m : Nat) (s : List UInt8) : St → Bool
  | .out _ => false
  | .run p => isMark L (p + m) s
def levelS (L : List Tok) : St → Nat
  | .out _ => 0
  | .run p => levelAt L p
def endS (L : List Tok) : St → Bool
  | .out _ => false
  | .run p => isEnd L p
def failS (L : List Tok) (E : Nat) : St → St
  | .out x => .out x
  | .run p => .out (whr L E p)
def OkS (L : List Tok) : St → Prop
  | .out _ => True
  | .run p => p ≤ L.length
theorem toS_next {a : Option Res} {f : Tr → Nat → Option Res} {g : Got} (h : toS (Res.next a f) = some g) :
    (∃ t q, toS a = some (.run q, some t) ∧ toS (f t q) = some g) ∨ (∃ x, toS a = some (.out x, none) ∧ g = (.out x, none)) := by
  cases a with
  | none => cases h
  | some r =>
    cases r with
    | ok t q => exact .inl ⟨t, q, rfl, h⟩
    | bad x => exact .inr ⟨x, rfl, (Option.some.inj h).symm⟩
theorem toS_must {L : List Tok} {E p : Nat} {s : List UInt8} {f : Nat → Option Res} {g : Got} (h : toS (mustF L E p s f) = some g) :
    (∃ q, mustS L E s (.run p) = .run q ∧ toS (f q) = some g) ∨ (∃ x, mustS L E s (.run p) = .out x ∧ g = (.out x, none)) := by
  unfold mustF at h
  by_cases hm : isMark L p s = true
  · rw [if_pos hm] at h
    exact .inl ⟨p + 1, if_pos hm, h⟩
  · rw [if_neg hm] at h
    exact .inr ⟨whr L E p, if_neg hm, (Option.some.inj h).symm⟩
theorem goS_fine {L : List Tok} {f : Nat → Option Res} {st : St} {lo : Nat → Nat} (hs : OkS L st) (h : ∀ p, p ≤ L.length → Fine L.length (lo p) (f p)) : ∃ g, goS f st = some g ∧ OkS L g.1 := by
  cases st with
  | out x => exact ⟨_, rfl, trivial⟩
  | run p =>
    obtain ⟨r, e, hr⟩ := h p hs
    cases r with
    | ok t q => exact ⟨(.run q, some t), by show toS (f p) = _; rw [e]; rfl, (hr t q rfl).2⟩
    | bad x => exact ⟨(.out x, none), by show toS (f p) = _; rw [e]; rfl, trivial⟩
end Go.Proofs.YteflmfifhmlpiaaDoor
namespace Go.Proofs.YteflmfifhmlpiaaDoor
open Go.RowKit

def RS (w : World) (R : Nat) (A : Option Addr) (cap : Nat) (L : List Tok) (E : Nat) : St → Prop
  | .run p => p ≤ L.length ∧ ∃ x : Int, RC w R A cap L E (p : Int) false x
  | .out x => ∃ p : Int, RC w R A cap L E p true (x : Int)
theorem RS.below {w w' : World} {R : Nat} {A : Option Addr} {cap : Nat} {L : List Tok} {E : Nat} {st : St} (h : RS w R A cap L E st) (hb : Below w.heap.size w w') : RS w' R A cap L E st := by
  cases st with
  | run p => obtain ⟨hp, x, h⟩ := h; exact ⟨hp, x, h.below hb⟩
  | out x => obtain ⟨p, h⟩ := h; exact ⟨p, h.below hb⟩

set_option maxHeartbeats 1000000 in
set_option maxRecDepth 10000 in
theorem rmark_bad {w : World} {R : Nat} {A : Option Addr} {cap : Nat} {L : List Tok} {E : Nat} {p x : Int} (m : Int) (s : ByteArray) (h : RC w R A cap L E p true x) :
    Calls Tryd.prog 76 #[.pointer (some ⟨R, 0, none⟩), .int .i64 m, .string s] w fun e w' => e = .returned (.bool false) ∧ Below w.heap.size w w' := by
  have c3 := h.c3
  clear h
  go_enter Tryd.func76, Tryd.ntmps76
  go_wp2_with fail
  go_quiet (fail)
  go_wp2_with fail
  go_ret
  exact ⟨rfl, below_drewN (Below.refl _ _) _⟩
set_option maxHeartbeats 1000000 in
set_option maxRecDepth 10000 in
theorem rmark_off {w : World} {R : Nat} {A : Option Addr} {cap : Nat} {L : List Tok} {E : Nat} {p m : Nat} {x : Int} (s : ByteArray) (_hL : L.length ≤ 1000) (hp : p ≤ 1000) (hm : m ≤ 1) (h : RC w R A cap L E p false x) (ho : ¬ p + m < L.length) :
    Calls Tryd.prog 76 #[.pointer (some ⟨R, 0, none⟩), .int .i64 (m : Int), .string s] w fun e w' => e = .returned (.bool false) ∧ Below w.heap.size w w' := by
  have c0 := h.c0
  have c1 := h.c1
  have c3 := h.c3
  have d1 : decide ((p : Int) + (m : Int) < (L.length : Int)) = false := decide_eq_false (by omega)
  clear h ho
  go_enter Tryd.func76, Tryd.ntmps76
  go_wp2_with fail
  go_quiet (fail)
  go_wp2_with fail
  go_ret
  exact ⟨rfl, below_drewN (Below.refl _ _) _⟩
set_option maxHeartbeats 1000000 in
set_option maxRecDepth 10000 in
theorem rmark_on {w : World} {R : Nat} {A : Option Addr} {cap : Nat} {L : List Tok} {E : Nat} {p m : Nat} {x : Int} (s : ByteArray) (hL : L.length ≤ 1000) (hp : p ≤ 1000) (hm : m ≤ 1) (h : RC w R A cap L E p false x) (hk : TK w R A L) {t : Tok} (ht : L[p + m]? = some t) :
    Calls Tryd.prog 76 #[.pointer (some ⟨R, 0, none⟩), .int .i64 (m : Int), .string s] w fun e w' => e = .returned (.bool (t.kind == 5 && t.text == s.data.toList)) ∧ Below w.heap.size w w' := by
  have c0 := h.c0
  have c1 := h.c1
  have c3 := h.c3
  obtain ⟨g, rfl, _, _, k0, _, _, _, k4, _⟩ := hk.at ht
  have hlt : p + m < L.length := (List.getElem?_eq_some_iff.1 ht).1
  have d1 : decide ((p : Int) + (m : Int) < (L.length : Int)) = true := decide_eq_true (by omega)
  have hT : (t.text == s.toList) = (t.text == s.data.toList) := by rw [ByteArray.toList_eq]
  clear h hk ht
  cases h5 : (t.kind == 5) with
  | false =>
    go_enter Tryd.func76, Tryd.ntmps76
    go_wp2_with fail
    go_quiet (fail)
    go_wp2_with fail
    go_ret
    exact ⟨rfl, below_drewN (Below.refl _ _) _⟩
  | true =>
    go_enter Tryd.func76, Tryd.ntmps76
    go_wp2_with fail
    go_quiet (fail)
    go_wp2_with fail
    go_ret
    exact ⟨ret_bool (Bool.true_and _).symm, below_drewN (Below.refl _ _) _⟩
theorem rmark_any {w : World} {R : Nat} {A : Option Addr} {cap : Nat} {L : List Tok} {E m : Nat} {st : St} (s : ByteArray) (hL : L.length ≤ 1000) (hm : m ≤ 1) (h : RS w R A cap L E st) (hk : TK w R A L) :
    Calls Tryd.prog 76 #[.pointer (some ⟨R, 0, none⟩), .int .i64 (m : Int), .string s] w fun e w' => e = .returned (.bool (markR L m s.data.toList st)) ∧ Below w.heap.size w w' := by
  cases st with
  | out x => obtain ⟨p, h⟩ := h; exact rmark_bad _ s h
  | run p =>
    obtain ⟨hp, x, h⟩ := h
    by_cases ho : p + m < L.length
    · have ht : L[p + m]? = some (L[p + m]'ho) := List.getElem?_eq_getElem ho
      refine (rmark_on s hL (by omega) hm h hk ht).mono fun e w' ⟨he, hb⟩ => ⟨he.trans (ret_bool ?_), hb⟩
      show _ = isMark L (p + m) s.data.toList
      unfold isMark
      rw [ht]
    · refine (rmark_off s hL (by omega) hm h ho).mono fun e w' ⟨he, hb⟩ => ⟨he.trans (ret_bool ?_), hb⟩
      show _ = isMark L (p + m) s.data.toList
      unfold isMark
      rw [List.getElem?_eq_none (by omega)]
end Go.Proofs.YteflmfifhmlpiaaDoor
