/- Texts joined: TrT, TrC, TrD, TrE, TrF, TrG. -/
import Derived.Test.YtahdlijkohmdfaaGreatDoorMp27
import Derived.Test.YtahdlijkohmdfaaGreatDoorMp08
import Derived.Deep.QuietTactic
import Derived.BigQuiet
import Derived.Deep.RegionHeld3
import Derived.Test.YtahdlijkohmdfaaGreatDoorMp06
import Derived.Deep.RegionWith
set_option linter.all false
set_option linter.unusedVariables false
set_option linter.unusedSimpArgs false
namespace Go.Proofs.YtahdlijkohmdfaaGreatDoor
open Go.RowKit

set_option maxHeartbeats 2000000 in
set_option maxRecDepth 10000 in
theorem rsame_no0 (t u : Tr) (A B : Option Addr) (ca cb : Nat) (w : World) (h0 : (t.kind != u.kind) = true) :
    Calls Tryz.prog 8 #[.agg #[.int .i64 t.kind, .int .i64 t.num, .int .i64 t.c1, .int .i64 t.r1, .int .i64 t.c2, .int .i64 t.r2, .string ⟨t.word.toArray⟩, .slice A t.kids.length ca], .agg #[.int .i64 u.kind, .int .i64 u.num, .int .i64 u.c1, .int .i64 u.r1, .int .i64 u.c2, .int .i64 u.r2, .string ⟨u.word.toArray⟩, .slice B u.kids.length cb]] w fun e w' => e = .returned (.bool false) ∧ Below w.heap.size w w' := by
  have hG := fun op X Y W => guard_range op X Y #[.int .i64 t.c1, .int .i64 t.r1, .int .i64 t.c2, .int .i64 t.r2] #[.int .i64 u.c1, .int .i64 u.r1, .int .i64 u.c2, .int .i64 u.r2] W
  have hN := neq_range t.c1 t.r1 t.c2 t.r2 u.c1 u.r1 u.c2 u.r2
  go_enter Tryz.func8, Tryz.ntmps8
  go_wp2_with fail
  go_ret
  exact ⟨rfl, ((Below.refl _ _).alloc (Nat.le_refl _) _).alloc (by simp) _⟩
set_option maxHeartbeats 2000000 in
set_option maxRecDepth 10000 in
theorem rsame_no1 (t u : Tr) (A B : Option Addr) (ca cb : Nat) (w : World) (h0 : (t.kind != u.kind) = false) (h1 : (t.num != u.num) = true) :
    Calls Tryz.prog 8 #[.agg #[.int .i64 t.kind, .int .i64 t.num, .int .i64 t.c1, .int .i64 t.r1, .int .i64 t.c2, .int .i64 t.r2, .string ⟨t.word.toArray⟩, .slice A t.kids.length ca], .agg #[.int .i64 u.kind, .int .i64 u.num, .int .i64 u.c1, .int .i64 u.r1, .int .i64 u.c2, .int .i64 u.r2, .string ⟨u.word.toArray⟩, .slice B u.kids.length cb]] w fun e w' => e = .returned (.bool false) ∧ Below w.heap.size w w' := by
  have hG := fun op X Y W => guard_range op X Y #[.int .i64 t.c1, .int .i64 t.r1, .int .i64 t.c2, .int .i64 t.r2] #[.int .i64 u.c1, .int .i64 u.r1, .int .i64 u.c2, .int .i64 u.r2] W
  have hN := neq_range t.c1 t.r1 t.c2 t.r2 u.c1 u.r1 u.c2 u.r2
  go_enter Tryz.func8, Tryz.ntmps8
  go_wp2_with fail
  go_ret
  exact ⟨rfl, ((Below.refl _ _).alloc (Nat.le_refl _) _).alloc (by simp) _⟩
set_option maxHeartbeats 2000000 in
set_option maxRecDepth 10000 in
theorem rsame_no2 (t u : Tr) (A B : Option Addr) (ca cb : Nat) (w : World) (h0 : (t.kind != u.kind) = false) (h1 : (t.num != u.num) = false) (h2 : (!(t.c1 == u.c1 && t.r1 == u.r1 && (t.c2 == u.c2 && t.r2 == u.r2))) = true) :
    Calls Tryz.prog 8 #[.agg #[.int .i64 t.kind, .int .i64 t.num, .int .i64 t.c1, .int .i64 t.r1, .int .i64 t.c2, .int .i64 t.r2, .string ⟨t.word.toArray⟩, .slice A t.kids.length ca], .agg #[.int .i64 u.kind, .int .i64 u.num, .int .i64 u.c1, .int .i64 u.r1, .int .i64 u.c2, .int .i64 u.r2, .string ⟨u.word.toArray⟩, .slice B u.kids.length cb]] w fun e w' => e = .returned (.bool false) ∧ Below w.heap.size w w' := by
  have hG := fun op X Y W => guard_range op X Y #[.int .i64 t.c1, .int .i64 t.r1, .int .i64 t.c2, .int .i64 t.r2] #[.int .i64 u.c1, .int .i64 u.r1, .int .i64 u.c2, .int .i64 u.r2] W
  have hN := neq_range t.c1 t.r1 t.c2 t.r2 u.c1 u.r1 u.c2 u.r2
  rw [h2] at hN
  go_enter Tryz.func8, Tryz.ntmps8
  go_wp2_with fail
  go_ret
  exact ⟨rfl, ((Below.refl _ _).alloc (Nat.le_refl _) _).alloc (by simp) _⟩
set_option maxHeartbeats 2000000 in
set_option maxRecDepth 10000 in
theorem rsame_no3 (t u : Tr) (A B : Option Addr) (ca cb : Nat) (w : World) (h0 : (t.kind != u.kind) = false) (h1 : (t.num != u.num) = false) (h2 : (!(t.c1 == u.c1 && t.r1 == u.r1 && (t.c2 == u.c2 && t.r2 == u.r2))) = false) (h3 : (t.word == u.word) = false) :
    Calls Tryz.prog 8 #[.agg #[.int .i64 t.kind, .int .i64 t.num, .int .i64 t.c1, .int .i64 t.r1, .int .i64 t.c2, .int .i64 t.r2, .string ⟨t.word.toArray⟩, .slice A t.kids.length ca], .agg #[.int .i64 u.kind, .int .i64 u.num, .int .i64 u.c1, .int .i64 u.r1, .int .i64 u.c2, .int .i64 u.r2, .string ⟨u.word.toArray⟩, .slice B u.kids.length cb]] w fun e w' => e = .returned (.bool false) ∧ Below w.heap.size w w' := by
  have hG := fun op X Y W => guard_range op X Y #[.int .i64 t.c1, .int .i64 t.r1, .int .i64 t.c2, .int .i64 t.r2] #[.int .i64 u.c1, .int .i64 u.r1, .int .i64 u.c2, .int .i64 u.r2] W
  have hN := neq_range t.c1 t.r1 t.c2 t.r2 u.c1 u.r1 u.c2 u.r2
  rw [h2] at hN
  go_enter Tryz.func8, Tryz.ntmps8
  go_wp2_with fail
  go_ret
  exact ⟨rfl, ((Below.refl _ _).alloc (Nat.le_refl _) _).alloc (by simp) _⟩
set_option maxHeartbeats 2000000 in
set_option maxRecDepth 10000 in
theorem rsame_no4 (t u : Tr) (A B : Option Addr) (ca cb : Nat) (w : World) (h0 : (t.kind != u.kind) = false) (h1 : (t.num != u.num) = false) (h2 : (!(t.c1 == u.c1 && t.r1 == u.r1 && (t.c2 == u.c2 && t.r2 == u.r2))) = false) (h3 : (t.word == u.word) = true) (h4 : ((t.kids.length : Int) != (u.kids.length : Int)) = true) :
    Calls Tryz.prog 8 #[.agg #[.int .i64 t.kind, .int .i64 t.num, .int .i64 t.c1, .int .i64 t.r1, .int .i64 t.c2, .int .i64 t.r2, .string ⟨t.word.toArray⟩, .slice A t.kids.length ca], .agg #[.int .i64 u.kind, .int .i64 u.num, .int .i64 u.c1, .int .i64 u.r1, .int .i64 u.c2, .int .i64 u.r2, .string ⟨u.word.toArray⟩, .slice B u.kids.length cb]] w fun e w' => e = .returned (.bool false) ∧ Below w.heap.size w w' := by
  have hG := fun op X Y W => guard_range op X Y #[.int .i64 t.c1, .int .i64 t.r1, .int .i64 t.c2, .int .i64 t.r2] #[.int .i64 u.c1, .int .i64 u.r1, .int .i64 u.c2, .int .i64 u.r2] W
  have hN := neq_range t.c1 t.r1 t.c2 t.r2 u.c1 u.r1 u.c2 u.r2
  rw [h2] at hN
  go_enter Tryz.func8, Tryz.ntmps8
  go_wp2_with fail
  go_ret
  exact ⟨rfl, ((Below.refl _ _).alloc (Nat.le_refl _) _).alloc (by simp) _⟩
set_option maxHeartbeats 2000000 in
set_option maxRecDepth 10000 in
theorem rsame_yes (d : Nat) (ih : ∀ (t u : Tr), deepT t ≤ d → Wid t → Wid u → ∀ (w : World) (P Q : Nat → Prop) (A B : Option Addr) (ca cb : Nat), KV w P t A → KV w Q u B →
      Calls Tryz.prog 8 #[tv t A ca, tv u B cb] w fun e w' => (∃ b, e = .returned (.bool b) ∧ (b = true ↔ t = u)) ∧ Below w.heap.size w w')
    (t u : Tr) (hd : deepT t ≤ d + 1) (ht : Wid t) (hu : Wid u) (w : World) (P Q : Nat → Prop) (A B : Option Addr) (ca cb : Nat) (hA : KV w P t A) (hB : KV w Q u B) (h0 : (t.kind != u.kind) = false) (h1 : (t.num != u.num) = false) (h2 : (!(t.c1 == u.c1 && t.r1 == u.r1 && (t.c2 == u.c2 && t.r2 == u.r2))) = false) (h3 : (t.word == u.word) = true) (h4 : ((t.kids.length : Int) != (u.kids.length : Int)) = false) :
    Calls Tryz.prog 8 #[.agg #[.int .i64 t.kind, .int .i64 t.num, .int .i64 t.c1, .int .i64 t.r1, .int .i64 t.c2, .int .i64 t.r2, .string ⟨t.word.toArray⟩, .slice A t.kids.length ca], .agg #[.int .i64 u.kind, .int .i64 u.num, .int .i64 u.c1, .int .i64 u.r1, .int .i64 u.c2, .int .i64 u.r2, .string ⟨u.word.toArray⟩, .slice B u.kids.length cb]] w fun e w' => (∃ b, e = .returned (.bool b) ∧ (b = true ↔ t.kids = u.kids)) ∧ Below w.heap.size w w' := by
  have hG := fun op X Y W => guard_range op X Y #[.int .i64 t.c1, .int .i64 t.r1, .int .i64 t.c2, .int .i64 t.r2] #[.int .i64 u.c1, .int .i64 u.r1, .int .i64 u.c2, .int .i64 u.r2] W
  have hN := neq_range t.c1 t.r1 t.c2 t.r2 u.c1 u.r1 u.c2 u.r2
  rw [h2] at hN
  have hlen := ht.len
  unfold maxLen at hlen
  have hll : t.kids.length = u.kids.length := by have h4' := h4; rw [bne_eq_false_iff_eq] at h4'; omega
  have HT := Lib.hid ht
  have HU := Lib.hid hu
  have HA := Lib.hid hA
  have HB := Lib.hid hB
  have HI := Lib.hid ih
  have HLL := Lib.hid hll
  have hdl : deepL t.kids ≤ d := by rw [deep_eq] at hd; omega
  clear ih hd ht hu hA hB hll
  go_enter Tryz.func8, Tryz.ntmps8
  go_wp2_with fail
  go_loopw [5] (fun vi wr => ∃ i : Nat, i ≤ t.kids.length ∧ vi = .int .i64 (i : Int) ∧ Hid (t.kids.take i = u.kids.take i) ∧ Below w.heap.size w wr ∧ w.heap.size + 1 < wr.heap.size ∧ wr.cell? ⟨w.heap.size, 7, none⟩ = some (.slice A t.kids.length ca) ∧ wr.cell? ⟨w.heap.size + 1, 7, none⟩ = some (.slice B u.kids.length cb)) (fun vi _ => t.kids.length - (intOf vi).toNat)
  case atStart => exact ⟨0, Nat.zero_le _, rfl, Lib.hid rfl, ((Below.refl _ _).alloc (Nat.le_refl _) _).alloc (by simp) _, by simp, by simp [go_sem], by simp [go_sem]⟩
  case round =>
    obtain ⟨i, hi, rfl, HTK, hbel, hsz, c7, e7⟩ := hrel
    by_cases hlt : i < t.kids.length
    · have hlt2 : i < u.kids.length := by have := HLL.out; omega
      have ha : t.kids[i]? = some (t.kids[i]'hlt) := List.getElem?_eq_getElem hlt
      have hb : u.kids[i]? = some (u.kids[i]'hlt2) := List.getElem?_eq_getElem hlt2
      obtain ⟨g, o, rfl⟩ := HA.out.addr ha
      obtain ⟨g2, o2, rfl⟩ := HB.out.addr hb
      obtain ⟨hg, A', ca', h8, hkv⟩ := HA.out.kidAt hbel ha
      obtain ⟨hg2, B', cb', k8, hkw⟩ := HB.out.kidAt hbel hb
      have HTE := Lib.hid fun e => take_eq ha hb HTK.out e
      have HNE := Lib.hid (And.intro ha hb)
      have HC := Lib.hid (HI.out _ _ (Nat.le_trans (deep_kid ha) hdl) (HT.out.kid ha) (HU.out.kid hb) wr.drew _ _ A' B' ca' cb' (hkv.kept (Kept.drew (Kept.refl _ _))) (hkw.kept (Kept.drew (Kept.refl _ _))))
      generalize t.kids[i]'hlt = x at *
      generalize u.kids[i]'hlt2 = y at *
      unfold At8 at h8 k8
      unfold tv at HC
      obtain ⟨q0, q1, q2, q3, q4, q5, q6, q7⟩ := h8
      obtain ⟨r0, r1, r2, r3, r4, r5, r6, r7⟩ := k8
      clear hkv hkw ha hb
      go_wp2_with fail
      go_region_held3 (fun w' => w'.cell? ⟨g, o + i * 8, none⟩ = some (.int .i64 x.kind) ∧ w'.cell? ⟨g, o + i * 8 + 1, none⟩ = some (.int .i64 x.num) ∧ w'.cell? ⟨g, o + i * 8 + 2, none⟩ = some (.int .i64 x.c1) ∧ w'.cell? ⟨g, o + i * 8 + 3, none⟩ = some (.int .i64 x.r1) ∧ w'.cell? ⟨g, o + i * 8 + 4, none⟩ = some (.int .i64 x.c2) ∧ w'.cell? ⟨g, o + i * 8 + 5, none⟩ = some (.int .i64 x.r2) ∧ w'.cell? ⟨g, o + i * 8 + 6, none⟩ = some (.string ⟨x.word.toArray⟩) ∧ w'.cell? ⟨g, o + i * 8 + 7, none⟩ = some (.slice A' x.kids.length ca') ∧ w'.cell? ⟨g2, o2 + i * 8, none⟩ = some (.int .i64 y.kind) ∧ w'.cell? ⟨g2, o2 + i * 8 + 1, none⟩ = some (.int .i64 y.num) ∧ w'.cell? ⟨g2, o2 + i * 8 + 2, none⟩ = some (.int .i64 y.c1) ∧ w'.cell? ⟨g2, o2 + i * 8 + 3, none⟩ = some (.int .i64 y.r1) ∧ w'.cell? ⟨g2, o2 + i * 8 + 4, none⟩ = some (.int .i64 y.c2) ∧ w'.cell? ⟨g2, o2 + i * 8 + 5, none⟩ = some (.int .i64 y.r2) ∧ w'.cell? ⟨g2, o2 + i * 8 + 6, none⟩ = some (.string ⟨y.word.toArray⟩) ∧ w'.cell? ⟨g2, o2 + i * 8 + 7, none⟩ = some (.slice B' y.kids.length cb') ∧ w'.cell? ⟨w.heap.size, 7, none⟩ = some (.slice (some ⟨g, o, none⟩) t.kids.length ca) ∧ w'.cell? ⟨w.heap.size + 1, 7, none⟩ = some (.slice (some ⟨g2, o2, none⟩) u.kids.length cb))
        (first | (simp only [World.cell?_drew]; with_reducible exact ⟨q0, q1, q2, q3, q4, q5, q6, q7, r0, r1, r2, r3, r4, r5, r6, r7, c7, e7⟩) | with_reducible exact ⟨mq0, mq1, mq2, mq3, mq4, mq5, mq6, mq7, mr0, mr1, mr2, mr3, mr4, mr5, mr6, mr7, mc7, me7⟩ | fail)
        (first
        | (go_at_call 8; refine HC.out.mono ?_; rintro e w1 ⟨⟨b, rfl, hbb⟩, b1'⟩
           have b1 : Below wr.heap.size wr w1 := (Below.refl _ wr).drew.trans b1'
           have mq0 := keep_cell b1 q0
           have mq1 := keep_cell b1 q1
           have mq2 := keep_cell b1 q2
           have mq3 := keep_cell b1 q3
           have mq4 := keep_cell b1 q4
           have mq5 := keep_cell b1 q5
           have mq6 := keep_cell b1 q6
           have mq7 := keep_cell b1 q7
           have mr0 := keep_cell b1 r0
           have mr1 := keep_cell b1 r1
           have mr2 := keep_cell b1 r2
           have mr3 := keep_cell b1 r3
           have mr4 := keep_cell b1 r4
           have mr5 := keep_cell b1 r5
           have mr6 := keep_cell b1 r6
           have mr7 := keep_cell b1 r7
           have mc7 := keep_cell b1 c7
           have me7 := keep_cell b1 e7)
        | fail)
      have s7 : w.heap.size + 1 < w1.heap.size := Nat.lt_of_lt_of_le hsz b1.size
      have hb1 := hbel.trans (b1.mono hbel.size)
      clear b1 b1' q0 q1 q2 q3 q4 q5 q6 q7 r0 r1 r2 r3 r4 r5 r6 r7 c7 e7 mq0 mq1 mq2 mq3 mq4 mq5 mq6 mq7 mr0 mr1 mr2 mr3 mr4 mr5 mr6 mr7
      cases b with
      | true =>
        have HXY := Lib.hid (HTE.out (hbb.1 rfl))
        clear hbb
        go_wp2_with fail
        go_roundw
        case rel => exact ⟨i + 1, by omega, by go_num, HXY, hb1, s7, mc7, me7⟩
        case measure => simp [intOf]; omega
      | false =>
        have hxy : ¬ x = y := fun e => by have := hbb.2 e; cases this
        have hk : ¬ t.kids = u.kids := fun e => by
          have h1 := HNE.out.1
          rw [e, HNE.out.2] at h1
          exact hxy (Option.some.inj h1).symm
        have HK := Lib.hid hk
        clear hbb hxy hk
        go_wp2_with fail
        go_ret
        exact ⟨⟨false, rfl, ⟨fun h => (by cases h), fun h => absurd h HK.out⟩⟩, hb1⟩
    · have hii : i = t.kids.length := by omega
      subst hii
      have hk : t.kids = u.kids := by
        have := HTK.out
        rw [List.take_length, HLL.out, List.take_length] at this
        exact this
      have HK := Lib.hid hk
      clear hk
      go_wp2_with fail
      go_ret
      exact ⟨⟨true, rfl, ⟨fun _ => HK.out, fun _ => rfl⟩⟩, hbel⟩
theorem rsame_any : ∀ (d : Nat) (t u : Tr), deepT t ≤ d → Wid t → Wid u → ∀ (w : World) (P Q : Nat → Prop) (A B : Option Addr) (ca cb : Nat), KV w P t A → KV w Q u B →
    Calls Tryz.prog 8 #[tv t A ca, tv u B cb] w fun e w' => (∃ b, e = .returned (.bool b) ∧ (b = true ↔ t = u)) ∧ Below w.heap.size w w' := by
  intro d
  induction d with
  | zero => intro t u h; rw [deep_eq] at h; omega
  | succ d ih =>
    intro t u hd ht hu w P Q A B ca cb hA hB
    have NO : ¬ t = u → ∀ {e : Ending} {w' : World}, e = .returned (.bool false) ∧ Below w.heap.size w w' → (∃ b, e = .returned (.bool b) ∧ (b = true ↔ t = u)) ∧ Below w.heap.size w w' :=
      fun hne _ _ ⟨he, hb⟩ => ⟨⟨false, he, ⟨fun h => (by cases h), fun h => absurd h hne⟩⟩, hb⟩
    by_cases h0 : t.kind = u.kind
    · by_cases h1 : t.num = u.num
      · by_cases h2 : t.c1 = u.c1 ∧ t.r1 = u.r1 ∧ t.c2 = u.c2 ∧ t.r2 = u.r2
        · by_cases h3 : t.word = u.word
          · by_cases h4 : t.kids.length = u.kids.length
            · obtain ⟨e1, e2, e3, e4⟩ := h2
              refine (rsame_yes d ih t u hd ht hu w P Q A B ca cb hA hB (by simp [h0]) (by simp [h1]) (by simp [e1, e2, e3, e4]) (by simp [h3]) (by simp [h4])).mono fun e w' ⟨⟨b, he, hb⟩, hw⟩ => ⟨⟨b, he, hb.trans ⟨fun h => tr_ext h0 h1 e1 e2 e3 e4 h3 h, fun h => by rw [h]⟩⟩, hw⟩
            · exact (rsame_no4 t u A B ca cb w (by simp [h0]) (by simp [h1]) (by simp [h2]) (by simp [h3]) (by rw [bne_iff_ne]; omega)).mono fun _ _ h => NO (fun e => h4 (by rw [e])) h
          · exact (rsame_no3 t u A B ca cb w (by simp [h0]) (by simp [h1]) (by simp [h2]) (by simp [h3])).mono fun _ _ h => NO (fun e => h3 (by rw [e])) h
        · exact (rsame_no2 t u A B ca cb w (by simp [h0]) (by simp [h1]) (by rw [Bool.not_eq_true']; rw [Bool.eq_false_iff]; intro h; simp at h; exact h2 ⟨h.1.1, h.1.2, h.2.1, h.2.2⟩)).mono fun _ _ h => NO (fun e => h2 (by rw [e]; simp)) h
      · exact (rsame_no1 t u A B ca cb w (by simp [h0]) (by simp [h1])).mono fun _ _ h => NO (fun e => h1 (by rw [e])) h
    · exact (rsame_no0 t u A B ca cb w (by simp [h0])).mono fun _ _ h => NO (fun e => h0 (by rw [e])) h
end Go.Proofs.YtahdlijkohmdfaaGreatDoor
namespace Go.Proofs.YtahdlijkohmdfaaGreatDoor

inductive St where
  | run (p : Nat)
  | out (x : Nat)
abbrev Got := St × Option Tr
def toS : Option Res → Option Got
  | none => none
  | some (.ok t q) => some (.run q, some t)
  | some (.bad x) => some (.out x, none)
def goS (f : Nat → Option Res) : St → Option Got
  | .out x => some (.out x, none)
  | .run p => toS (f p)
def mustS (L : List Tok) (E : Nat) (s : List UInt8) : St → St
  | .out x => .out x
  | .run p => if isMark L p s = true then .run (p + 1) else .out (whr L E p)
def markR (L : List Tok) (m : Nat) (s : List UInt8) : St → Bool
  | .out _ => false
  | .run p => isMark L (p + m) s
def levelS (L : List Tok) : St → Nat
  | .out _ => 0
  | .run p => levelAt L p
def endS (L : List Tok) : St → Bool
  | .out _ => false
  | .run p => isEnd L p
def failS (L : List Tok) (E : Nat) : St → St
  | .out x => .out x
  | .run p => .out (whr L E p)
def OkS (L : List Tok) : St → Prop
  | .out _ => True
  | .run p => p ≤ L.length
theorem toS_next {a : Option Res} {f : Tr → Nat → Option Res} {g : Got} (h : toS (Res.next a f) = some g) :
    (∃ t q, toS a = some (.run q, some t) ∧ toS (f t q) = some g) ∨ (∃ x, toS a = some (.out x, none) ∧ g = (.out x, none)) := by
  cases a with
  | none => cases h
  | some r =>
    cases r with
    | ok t q => exact .inl ⟨t, q, rfl, h⟩
    | bad x => exact .inr ⟨x, rfl, (Option.some.inj h).symm⟩
theorem toS_must {L : List Tok} {E p : Nat} {s : List UInt8} {f : Nat → Option Res} {g : Got} (h : toS (mustF L E p s f) = some g) :
    (∃ q, mustS L E s (.run p) = .run q ∧ toS (f q) = some g) ∨ (∃ x, mustS L E s (.run p) = .out x ∧ g = (.out x, none)) := by
  unfold mustF at h
  by_cases hm : isMark L p s = true
  · rw [if_pos hm] at h
    exact .inl ⟨p + 1, if_pos hm, h⟩
  · rw [if_neg hm] at h
    exact .inr ⟨whr L E p, if_neg hm, (Option.some.inj h).symm⟩
theorem goS_fine {L : List Tok} {f : Nat → Option Res} {st : St} {lo : Nat → Nat} (hs : OkS L st) (h : ∀ p, p ≤ L.length → Fine L.length (lo p) (f p)) : ∃ g, goS f st = some g ∧ OkS L g.1 := by
  cases st with
  | out x => exact ⟨_, rfl, trivial⟩
  | run p =>
    obtain ⟨r, e, hr⟩ := h p hs
    cases r with
    | ok t q => exact ⟨(.run q, some t), by show toS (f p) = _; rw [e]; rfl, (hr t q rfl).2⟩
    | bad x => exact ⟨(.out x, none), by show toS (f p) = _; rw [e]; rfl, trivial⟩
end Go.Proofs.YtahdlijkohmdfaaGreatDoor
namespace Go.Proofs.YtahdlijkohmdfaaGreatDoor
open Go.RowKit

def RS (w : World) (R : Nat) (A : Option Addr) (cap : Nat) (L : List Tok) (E : Nat) : St → Prop
  | .run p => p ≤ L.length ∧ ∃ x : Int, RC w R A cap L E (p : Int) false x
  | .out x => ∃ p : Int, RC w R A cap L E p true (x : Int)
theorem RS.below {w w' : World} {R : Nat} {A : Option Addr} {cap : Nat} {L : List Tok} {E : Nat} {st : St} (h : RS w R A cap L E st) (hb : Below w.heap.size w w') : RS w' R A cap L E st := by
  cases st with
  | run p => obtain ⟨hp, x, h⟩ := h; exact ⟨hp, x, h.below hb⟩
  | out x => obtain ⟨p, h⟩ := h; exact ⟨p, h.below hb⟩

set_option maxHeartbeats 1000000 in
set_option maxRecDepth 10000 in
theorem rmark_bad {w : World} {R : Nat} {A : Option Addr} {cap : Nat} {L : List Tok} {E : Nat} {p x : Int} (m : Int) (s : ByteArray) (h : RC w R A cap L E p true x) :
    Calls Tryz.prog 68 #[.pointer (some ⟨R, 0, none⟩), .int .i64 m, .string s] w fun e w' => e = .returned (.bool false) ∧ Below w.heap.size w w' := by
  have c3 := h.c3
  clear h
  go_enter Tryz.func68, Tryz.ntmps68
  go_wp2_with fail
  go_quiet (fail)
  go_wp2_with fail
  go_ret
  exact ⟨rfl, below_drewN (Below.refl _ _) _⟩
set_option maxHeartbeats 1000000 in
set_option maxRecDepth 10000 in
theorem rmark_off {w : World} {R : Nat} {A : Option Addr} {cap : Nat} {L : List Tok} {E : Nat} {p m : Nat} {x : Int} (s : ByteArray) (_hL : L.length ≤ 1000) (hp : p ≤ 1000) (hm : m ≤ 1) (h : RC w R A cap L E p false x) (ho : ¬ p + m < L.length) :
    Calls Tryz.prog 68 #[.pointer (some ⟨R, 0, none⟩), .int .i64 (m : Int), .string s] w fun e w' => e = .returned (.bool false) ∧ Below w.heap.size w w' := by
  have c0 := h.c0
  have c1 := h.c1
  have c3 := h.c3
  have d1 : decide ((p : Int) + (m : Int) < (L.length : Int)) = false := decide_eq_false (by omega)
  clear h ho
  go_enter Tryz.func68, Tryz.ntmps68
  go_wp2_with fail
  go_quiet (fail)
  go_wp2_with fail
  go_ret
  exact ⟨rfl, below_drewN (Below.refl _ _) _⟩
set_option maxHeartbeats 1000000 in
set_option maxRecDepth 10000 in
theorem rmark_on {w : World} {R : Nat} {A : Option Addr} {cap : Nat} {L : List Tok} {E : Nat} {p m : Nat} {x : Int} (s : ByteArray) (hL : L.length ≤ 1000) (hp : p ≤ 1000) (hm : m ≤ 1) (h : RC w R A cap L E p false x) (hk : TK w R A L) {t : Tok} (ht : L[p + m]? = some t) :
    Calls Tryz.prog 68 #[.pointer (some ⟨R, 0, none⟩), .int .i64 (m : Int), .string s] w fun e w' => e = .returned (.bool (t.kind == 5 && t.text == s.data.toList)) ∧ Below w.heap.size w w' := by
  have c0 := h.c0
  have c1 := h.c1
  have c3 := h.c3
  obtain ⟨g, rfl, _, _, k0, _, _, _, k4, _⟩ := hk.at ht
  have hlt : p + m < L.length := (List.getElem?_eq_some_iff.1 ht).1
  have d1 : decide ((p : Int) + (m : Int) < (L.length : Int)) = true := decide_eq_true (by omega)
  have hT : (t.text == s.toList) = (t.text == s.data.toList) := by rw [ByteArray.toList_eq]
  clear h hk ht
  cases h5 : (t.kind == 5) with
  | false =>
    go_enter Tryz.func68, Tryz.ntmps68
    go_wp2_with fail
    go_quiet (fail)
    go_wp2_with fail
    go_ret
    exact ⟨rfl, below_drewN (Below.refl _ _) _⟩
  | true =>
    go_enter Tryz.func68, Tryz.ntmps68
    go_wp2_with fail
    go_quiet (fail)
    go_wp2_with fail
    go_ret
    exact ⟨ret_bool (Bool.true_and _).symm, below_drewN (Below.refl _ _) _⟩
theorem rmark_any {w : World} {R : Nat} {A : Option Addr} {cap : Nat} {L : List Tok} {E m : Nat} {st : St} (s : ByteArray) (hL : L.length ≤ 1000) (hm : m ≤ 1) (h : RS w R A cap L E st) (hk : TK w R A L) :
    Calls Tryz.prog 68 #[.pointer (some ⟨R, 0, none⟩), .int .i64 (m : Int), .string s] w fun e w' => e = .returned (.bool (markR L m s.data.toList st)) ∧ Below w.heap.size w w' := by
  cases st with
  | out x => obtain ⟨p, h⟩ := h; exact rmark_bad _ s h
  | run p =>
    obtain ⟨hp, x, h⟩ := h
    by_cases ho : p + m < L.length
    · have ht : L[p + m]? = some (L[p + m]'ho) := List.getElem?_eq_getElem ho
      refine (rmark_on s hL (by omega) hm h hk ht).mono fun e w' ⟨he, hb⟩ => ⟨he.trans (ret_bool ?_), hb⟩
      show _ = isMark L (p + m) s.data.toList
      unfold isMark
      rw [ht]
    · refine (rmark_off s hL (by omega) hm h ho).mono fun e w' ⟨he, hb⟩ => ⟨he.trans (ret_bool ?_), hb⟩
      show _ = isMark L (p + m) s.data.toList
      unfold isMark
      rw [List.getElem?_eq_none (by omega)]
end Go.Proofs.YtahdlijkohmdfaaGreatDoor
namespace Go.Proofs.YtahdlijkohmdfaaGreatDoor
open Go.RowKit

set_option maxHeartbeats 1000000 in
set_option maxRecDepth 10000 in
theorem rfail_bad {w : World} {R : Nat} {A : Option Addr} {cap : Nat} {L : List Tok} {E : Nat} {p x : Int} (h : RC w R A cap L E p true x) :
    Calls Tryz.prog 21 #[.pointer (some ⟨R, 0, none⟩)] w fun e w' => e = .returned (.tuple #[]) ∧ w = w' := by
  have c3 := h.c3
  clear h
  go_enter Tryz.func21, Tryz.ntmps21
  go_wp2_with fail
  refine bodyPost_ret (results_none rfl _ _ _) rfl ?_
  exact ⟨rfl, rfl⟩
set_option maxHeartbeats 1000000 in
set_option maxRecDepth 10000 in
theorem rfail_off {w : World} {R : Nat} {A : Option Addr} {cap : Nat} {L : List Tok} {E : Nat} {p : Nat} {x : Int} (h : RC w R A cap L E p false x) (ho : ¬ p < L.length) :
    Calls Tryz.prog 21 #[.pointer (some ⟨R, 0, none⟩)] w fun e w' => e = .returned (.tuple #[]) ∧ RC w' R A cap L E p true E ∧ But R w w' := by
  have c0 := h.c0
  have c1 := h.c1
  have c2 := h.c2
  have c3 := h.c3
  have c4 := h.c4
  have f1 := h.f1
  have f3 := h.f3
  have f4 := h.f4
  have hR := h.lt
  have d1 : decide (p < L.length) = false := decide_eq_false ho
  clear h ho
  go_enter Tryz.func21, Tryz.ntmps21
  go_wp2_with fail
  go_quiet (fail)
  go_wp2_with fail
  go_end0
  exact ⟨rfl, ⟨by simp [go_sem, c0], by simp [go_sem, c1], by simp [go_sem, c2], by simp [go_sem, c3], by simp [go_sem, c4], by simp [go_sem, f1], by simp [go_sem, f3], by simp [go_sem, f4]⟩, (((But.refl _ _).setR _ _).setR _ _).drewN _⟩
set_option maxHeartbeats 1000000 in
set_option maxRecDepth 10000 in
theorem rfail_on {w : World} {R : Nat} {A : Option Addr} {cap : Nat} {L : List Tok} {E : Nat} {p : Nat} {x : Int} (_hL : L.length ≤ 1000) (h : RC w R A cap L E p false x) (hk : TK w R A L) {t : Tok} (ht : L[p]? = some t) :
    Calls Tryz.prog 21 #[.pointer (some ⟨R, 0, none⟩)] w fun e w' => e = .returned (.tuple #[]) ∧ RC w' R A cap L E p true (t.frm : Int) ∧ But R w w' := by
  have c0 := h.c0
  have c1 := h.c1
  have c2 := h.c2
  have c3 := h.c3
  have c4 := h.c4
  have f1 := h.f1
  have f3 := h.f3
  have f4 := h.f4
  have hR := h.lt
  obtain ⟨g, rfl, hg, _, _, _, _, _, _, k5⟩ := hk.at ht
  have hlt : p < L.length := (List.getElem?_eq_some_iff.1 ht).1
  have d1 : decide (p < L.length) = true := decide_eq_true hlt
  clear h hk ht
  go_enter Tryz.func21, Tryz.ntmps21
  go_wp2_with fail
  go_quiet (fail)
  go_wp2_with fail
  go_region
  all_goals
    go_wp2_with fail
    go_end0
    exact ⟨rfl, ⟨by simp [go_sem, c0], by simp [go_sem, c1], by simp [go_sem, c2], by simp [go_sem, c3], World.cell?_setCell_same _ _ _ (u := .int .i64 (E : Int)) (by rw [World.cell?_drewN]; exact World.cell?_setCell_same _ _ _ (u := .int .i64 x) (by simp [go_sem, c4])), by simp [go_sem, f1], by simp [go_sem, f3], by simp [go_sem, f4]⟩, by
      repeat' (first | (with_reducible exact But.refl _ _) | (with_reducible refine But.drewN ?_ _) | (with_reducible refine But.setR ?_ _ _) | (with_reducible refine But.drew ?_))⟩
theorem rfail_any {w : World} {R : Nat} {A : Option Addr} {cap : Nat} {L : List Tok} {E : Nat} {st : St} (hL : L.length ≤ 1000) (h : RS w R A cap L E st) (hk : TK w R A L) :
    Calls Tryz.prog 21 #[.pointer (some ⟨R, 0, none⟩)] w fun e w' => e = .returned (.tuple #[]) ∧ RS w' R A cap L E (failS L E st) ∧ But R w w' := by
  cases st with
  | out x =>
    obtain ⟨p, h⟩ := h
    exact (rfail_bad h).mono fun e w' ⟨he, hw⟩ => ⟨he, hw ▸ ⟨p, h⟩, hw ▸ But.refl _ _⟩
  | run p =>
    obtain ⟨hp, x, h⟩ := h
    by_cases ho : p < L.length
    · have ht : L[p]? = some (L[p]'ho) := List.getElem?_eq_getElem ho
      refine (rfail_on hL h hk ht).mono fun e w' ⟨he, hr, hb⟩ => ⟨he, ⟨p, ?_⟩, hb⟩
      have e1 : whr L E p = (L[p]'ho).frm := by unfold whr; rw [ht]
      rw [e1]
      exact hr
    · refine (rfail_off h ho).mono fun e w' ⟨he, hr, hb⟩ => ⟨he, ⟨p, ?_⟩, hb⟩
      have e1 : whr L E p = E := by unfold whr; rw [List.getElem?_eq_none (by omega)]
      rw [e1]
      exact hr
end Go.Proofs.YtahdlijkohmdfaaGreatDoor
namespace Go.Proofs.YtahdlijkohmdfaaGreatDoor
open Go.RowKit

theorem RC.step {w : World} {R : Nat} {A : Option Addr} {cap : Nat} {L : List Tok} {E p : Nat} {x : Int} (h : RC w R A cap L E (p : Int) false x) {v : Int} (hv : v = ((p + 1 : Nat) : Int)) : RC (w.setCell ⟨R, 1, none⟩ (.int .i64 v)) R A cap L E ((p + 1 : Nat) : Int) false x := by
  subst hv
  have c0 := h.c0
  have c1 := h.c1
  have c2 := h.c2
  have c3 := h.c3
  have c4 := h.c4
  have f1 := h.f1
  have f3 := h.f3
  have f4 := h.f4
  exact ⟨by simp [go_sem, c0], by simp [go_sem, c1], by simp [go_sem, c2], by simp [go_sem, c3], by simp [go_sem, c4], by simp [go_sem, f1], by simp [go_sem, f3], by simp [go_sem, f4]⟩
set_option maxHeartbeats 1000000 in
set_option maxRecDepth 10000 in
theorem rmust_any {w : World} {R : Nat} {A : Option Addr} {cap : Nat} {L : List Tok} {E : Nat} {st : St} (s : ByteArray) (hL : L.length ≤ 1000) (h : RS w R A cap L E st) (hk : TK w R A L) :
    Calls Tryz.prog 88 #[.pointer (some ⟨R, 0, none⟩), .string s] w fun e w' => e = .returned (.tuple #[]) ∧ RS w' R A cap L E (mustS L E s.data.toList st) ∧ But R w w' := by
  have H1 := rmark_any (m := 0) s hL (by omega) h hk
  cases hm : markR L 0 s.data.toList st with
  | true =>
    rw [hm] at H1
    have HM := Lib.hid H1
    have hst : ∃ p, st = .run p := by
      cases st with
      | run p => exact ⟨p, rfl⟩
      | out x => cases hm
    obtain ⟨p, rfl⟩ := hst
    have hm' : isMark L p s.data.toList = true := hm
    have hlt := mark_lt hm'
    have e1 : mustS L E s.data.toList (.run p) = .run (p + 1) := if_pos hm'
    obtain ⟨hp, x, hc⟩ := h
    have HC := Lib.hid hc
    have HE := Lib.hid e1
    clear H1 hm hm' hk e1 hc
    go_enter Tryz.func88, Tryz.ntmps88
    go_wp2_with fail
    refine HM.out.mono ?_; rintro e w1 ⟨rfl, b1⟩
    have HC1 := Lib.hid (HC.out.below b1)
    have c1 := HC1.out.c1
    have f1 := HC1.out.f1
    go_wp2_with fail
    go_end0
    exact ⟨rfl, by rw [HE.out]; exact ⟨by omega, x, HC1.out.step (by omega)⟩, (But.of_below b1).setR _ _⟩
  | false =>
    rw [hm] at H1
    have HM := Lib.hid H1
    have e1 : mustS L E s.data.toList st = failS L E st := by
      cases st with
      | out x => rfl
      | run p => exact if_neg (by rw [show isMark L p s.data.toList = false from hm]; decide)
    have HE := Lib.hid e1
    have HH := Lib.hid (And.intro h hk)
    clear H1 hm hk h e1
    go_enter Tryz.func88, Tryz.ntmps88
    go_wp2_with fail
    refine HM.out.mono ?_; rintro e w1 ⟨rfl, b1⟩
    have HF := Lib.hid (rfail_any hL (HH.out.1.below b1) (HH.out.2.but (But.of_below b1)))
    go_wp2_with fail
    refine HF.out.mono ?_; rintro e w2 ⟨rfl, r2, b2⟩
    have HR := Lib.hid r2
    clear r2
    go_wp2_with fail
    refine bodyPost_ret (results_none rfl _ _ _) rfl ?_
    exact ⟨rfl, by rw [HE.out]; exact HR.out, (But.of_below b1).trans b2⟩
end Go.Proofs.YtahdlijkohmdfaaGreatDoor
namespace Go.Proofs.YtahdlijkohmdfaaGreatDoor
open Go.RowKit

set_option maxHeartbeats 1000000 in
theorem rLevel_at (s : ByteArray) (w : World) (b : List Bool) (n : Nat) (hb : b.length = 10) (hn : n = if b.getD 0 false || b.getD 1 false || b.getD 2 false || b.getD 3 false || b.getD 4 false || b.getD 5 false then 1 else if b.getD 6 false || b.getD 7 false then 2 else if b.getD 8 false || b.getD 9 false then 3 else 0)
    (h0 : (s.toList == [60]) = b.getD 0 false)
    (h1 : (s.toList == [60, 61]) = b.getD 1 false)
    (h2 : (s.toList == [61]) = b.getD 2 false)
    (h3 : (s.toList == [60, 62]) = b.getD 3 false)
    (h4 : (s.toList == [62, 61]) = b.getD 4 false)
    (h5 : (s.toList == [62]) = b.getD 5 false)
    (h6 : (s.toList == [43]) = b.getD 6 false)
    (h7 : (s.toList == [45]) = b.getD 7 false)
    (h8 : (s.toList == [42]) = b.getD 8 false)
    (h9 : (s.toList == [47]) = b.getD 9 false) :
    Calls Tryz.prog 49 #[.string s] w fun e w' => e = .returned (.int .i64 (n : Int)) ∧ w = w' := by
  match b, hb with
  | [b0, b1, b2, b3, b4, b5, b6, b7, b8, b9], _ =>
    simp only [List.getD_cons_zero, List.getD_cons_succ] at *
    cases b0 with
    | true =>
      simp at hn
      subst hn
      go_enter Tryz.func49, Tryz.ntmps49
      go_wp2_with fail
      go_ret
      exact ⟨rfl, rfl⟩
    | false =>
      cases b1 with
      | true =>
        simp at hn
        subst hn
        go_enter Tryz.func49, Tryz.ntmps49
        go_wp2_with fail
        go_ret
        exact ⟨rfl, rfl⟩
      | false =>
        cases b2 with
        | true =>
          simp at hn
          subst hn
          go_enter Tryz.func49, Tryz.ntmps49
          go_wp2_with fail
          go_ret
          exact ⟨rfl, rfl⟩
        | false =>
          cases b3 with
          | true =>
            simp at hn
            subst hn
            go_enter Tryz.func49, Tryz.ntmps49
            go_wp2_with fail
            go_ret
            exact ⟨rfl, rfl⟩
          | false =>
            cases b4 with
            | true =>
              simp at hn
              subst hn
              go_enter Tryz.func49, Tryz.ntmps49
              go_wp2_with fail
              go_ret
              exact ⟨rfl, rfl⟩
            | false =>
              cases b5 with
              | true =>
                simp at hn
                subst hn
                go_enter Tryz.func49, Tryz.ntmps49
                go_wp2_with fail
                go_ret
                exact ⟨rfl, rfl⟩
              | false =>
                cases b6 with
                | true =>
                  simp at hn
                  subst hn
                  go_enter Tryz.func49, Tryz.ntmps49
                  go_wp2_with fail
                  go_ret
                  exact ⟨rfl, rfl⟩
                | false =>
                  cases b7 with
                  | true =>
                    simp at hn
                    subst hn
                    go_enter Tryz.func49, Tryz.ntmps49
                    go_wp2_with fail
                    go_ret
                    exact ⟨rfl, rfl⟩
                  | false =>
                    cases b8 with
                    | true =>
                      simp at hn
                      subst hn
                      go_enter Tryz.func49, Tryz.ntmps49
                      go_wp2_with fail
                      go_ret
                      exact ⟨rfl, rfl⟩
                    | false =>
                      cases b9 with
                      | true =>
                        simp at hn
                        subst hn
                        go_enter Tryz.func49, Tryz.ntmps49
                        go_wp2_with fail
                        go_ret
                        exact ⟨rfl, rfl⟩
                      | false =>
                        simp at hn
                        subst hn
                        go_enter Tryz.func49, Tryz.ntmps49
                        go_wp2_with fail
                        go_ret
                        exact ⟨rfl, rfl⟩
theorem rLevel_any (s : ByteArray) (w : World) :
    Calls Tryz.prog 49 #[.string s] w fun e w' => e = .returned (.int .i64 (lvl s.data.toList : Int)) ∧ w = w' := by
  refine rLevel_at s w [s.toList == [60], s.toList == [60, 61], s.toList == [61], s.toList == [60, 62], s.toList == [62, 61], s.toList == [62], s.toList == [43], s.toList == [45], s.toList == [42], s.toList == [47]] _ rfl ?_ rfl rfl rfl rfl rfl rfl rfl rfl rfl rfl
  rw [ByteArray.toList_eq]
  unfold lvl
  simp only [List.getD_cons_zero, List.getD_cons_succ, Bool.or_eq_true, beq_iff_eq, or_assoc]

set_option maxHeartbeats 1000000 in
set_option maxRecDepth 10000 in
theorem rlevel_bad {w : World} {R : Nat} {A : Option Addr} {cap : Nat} {L : List Tok} {E : Nat} {p x : Int} (h : RC w R A cap L E p true x) :
    Calls Tryz.prog 36 #[.pointer (some ⟨R, 0, none⟩)] w fun e w' => e = .returned (.int .i64 0) ∧ Below w.heap.size w w' := by
  have c3 := h.c3
  clear h
  go_enter Tryz.func36, Tryz.ntmps36
  go_wp2_with fail
  go_quiet (fail)
  go_wp2_with fail
  go_ret
  exact ⟨rfl, below_drewN (Below.refl _ _) _⟩
set_option maxHeartbeats 1000000 in
set_option maxRecDepth 10000 in
theorem rlevel_off {w : World} {R : Nat} {A : Option Addr} {cap : Nat} {L : List Tok} {E p : Nat} {x : Int} (h : RC w R A cap L E p false x) (ho : ¬ p < L.length) :
    Calls Tryz.prog 36 #[.pointer (some ⟨R, 0, none⟩)] w fun e w' => e = .returned (.int .i64 0) ∧ Below w.heap.size w w' := by
  have c0 := h.c0
  have c1 := h.c1
  have c3 := h.c3
  have d1 : decide (L.length ≤ p) = true := decide_eq_true (by omega)
  clear h ho
  go_enter Tryz.func36, Tryz.ntmps36
  go_wp2_with fail
  go_quiet (fail)
  go_wp2_with fail
  go_ret
  exact ⟨rfl, below_drewN (Below.refl _ _) _⟩
set_option maxHeartbeats 1000000 in
set_option maxRecDepth 10000 in
theorem rlevel_on {w : World} {R : Nat} {A : Option Addr} {cap : Nat} {L : List Tok} {E p : Nat} {x : Int} (_hL : L.length ≤ 1000) (h : RC w R A cap L E p false x) (hk : TK w R A L) {t : Tok} (ht : L[p]? = some t) :
    Calls Tryz.prog 36 #[.pointer (some ⟨R, 0, none⟩)] w fun e w' => e = .returned (.int .i64 ((if t.kind = 5 then lvl t.text else 0 : Nat) : Int)) ∧ Below w.heap.size w w' := by
  have c0 := h.c0
  have c1 := h.c1
  have c3 := h.c3
  obtain ⟨g, rfl, _, _, k0, _, _, _, k4, _⟩ := hk.at ht
  have hlt : p < L.length := (List.getElem?_eq_some_iff.1 ht).1
  have d1 : decide (L.length ≤ p) = false := decide_eq_false (by omega)
  have HL := Lib.hid (rLevel_any ⟨t.text.toArray⟩)
  clear h hk ht
  by_cases h5 : t.kind = 5
  · have d5 : (t.kind != 5) = false := by simpa using h5
    have e1 : (⟨t.text.toArray⟩ : ByteArray).data.toList = t.text := by simp
    rw [e1] at HL
    rw [if_pos h5]
    clear h5 e1
    go_enter Tryz.func36, Tryz.ntmps36
    go_wp2_with fail
    go_quiet (fail)
    go_wp2_with fail
    go_region_with ((go_at_call 49; refine (HL.out _).mono ?_; rintro e w1 ⟨rfl, rfl⟩))
    all_goals
      go_wp2_with fail
      go_ret
      exact ⟨rfl, below_drewN (Below.refl _ _) _⟩
  · have d5 : (t.kind != 5) = true := by simpa using h5
    rw [if_neg h5]
    clear h5 HL
    go_enter Tryz.func36, Tryz.ntmps36
    go_wp2_with fail
    go_quiet (fail)
    go_wp2_with fail
    go_ret
    exact ⟨rfl, below_drewN (Below.refl _ _) _⟩
theorem rlevel_any {w : World} {R : Nat} {A : Option Addr} {cap : Nat} {L : List Tok} {E : Nat} {st : St} (hL : L.length ≤ 1000) (h : RS w R A cap L E st) (hk : TK w R A L) :
    Calls Tryz.prog 36 #[.pointer (some ⟨R, 0, none⟩)] w fun e w' => e = .returned (.int .i64 (levelS L st : Int)) ∧ Below w.heap.size w w' := by
  cases st with
  | out x => obtain ⟨p, h⟩ := h; exact rlevel_bad h
  | run p =>
    obtain ⟨hp, x, h⟩ := h
    by_cases ho : p < L.length
    · have ht : L[p]? = some (L[p]'ho) := List.getElem?_eq_getElem ho
      have e1 : levelS L (.run p) = if (L[p]'ho).kind = 5 then lvl (L[p]'ho).text else 0 := by show levelAt L p = _; unfold levelAt; rw [ht]
      rw [e1]
      exact rlevel_on hL h hk ht
    · have e1 : levelS L (.run p) = 0 := by show levelAt L p = _; unfold levelAt; rw [List.getElem?_eq_none (by omega)]
      rw [e1]
      exact rlevel_off h ho

set_option maxHeartbeats 1000000 in
set_option maxRecDepth 10000 in
theorem rend_bad {w : World} {R : Nat} {A : Option Addr} {cap : Nat} {L : List Tok} {E : Nat} {p x : Int} (h : RC w R A cap L E p true x) :
    Calls Tryz.prog 105 #[.pointer (some ⟨R, 0, none⟩)] w fun e w' => e = .returned (.bool false) ∧ Below w.heap.size w w' := by
  have c3 := h.c3
  clear h
  go_enter Tryz.func105, Tryz.ntmps105
  go_wp2_with fail
  go_quiet (fail)
  go_wp2_with fail
  go_ret
  exact ⟨rfl, below_drewN (Below.refl _ _) _⟩
set_option maxHeartbeats 1000000 in
set_option maxRecDepth 10000 in
theorem rend_off {w : World} {R : Nat} {A : Option Addr} {cap : Nat} {L : List Tok} {E p : Nat} {x : Int} (h : RC w R A cap L E p false x) (ho : ¬ p < L.length) :
    Calls Tryz.prog 105 #[.pointer (some ⟨R, 0, none⟩)] w fun e w' => e = .returned (.bool false) ∧ Below w.heap.size w w' := by
  have c0 := h.c0
  have c1 := h.c1
  have c3 := h.c3
  have d1 : decide (p < L.length) = false := decide_eq_false ho
  clear h ho
  go_enter Tryz.func105, Tryz.ntmps105
  go_wp2_with fail
  go_quiet (fail)
  go_wp2_with fail
  go_ret
  exact ⟨rfl, below_drewN (Below.refl _ _) _⟩
set_option maxHeartbeats 1000000 in
set_option maxRecDepth 10000 in
theorem rend_on {w : World} {R : Nat} {A : Option Addr} {cap : Nat} {L : List Tok} {E p : Nat} {x : Int} (_hL : L.length ≤ 1000) (h : RC w R A cap L E p false x) (hk : TK w R A L) {t : Tok} (ht : L[p]? = some t) :
    Calls Tryz.prog 105 #[.pointer (some ⟨R, 0, none⟩)] w fun e w' => e = .returned (.bool (t.kind == 2 || t.kind == 3)) ∧ Below w.heap.size w w' := by
  have c0 := h.c0
  have c1 := h.c1
  have c3 := h.c3
  obtain ⟨g, rfl, _, _, k0, _, _, _, _, _⟩ := hk.at ht
  have hlt : p < L.length := (List.getElem?_eq_some_iff.1 ht).1
  have d1 : decide (p < L.length) = true := decide_eq_true hlt
  clear h hk ht
  cases h2 : (t.kind == 2) with
  | true =>
    go_enter Tryz.func105, Tryz.ntmps105
    go_wp2_with fail
    go_quiet (fail)
    go_wp2_with fail
    go_ret
    exact ⟨rfl, below_drewN (Below.refl _ _) _⟩
  | false =>
    go_enter Tryz.func105, Tryz.ntmps105
    go_wp2_with fail
    go_quiet (fail)
    go_wp2_with fail
    go_ret
    exact ⟨rfl, below_drewN (Below.refl _ _) _⟩
theorem rend_any {w : World} {R : Nat} {A : Option Addr} {cap : Nat} {L : List Tok} {E : Nat} {st : St} (hL : L.length ≤ 1000) (h : RS w R A cap L E st) (hk : TK w R A L) :
    Calls Tryz.prog 105 #[.pointer (some ⟨R, 0, none⟩)] w fun e w' => e = .returned (.bool (endS L st)) ∧ Below w.heap.size w w' := by
  cases st with
  | out x => obtain ⟨p, h⟩ := h; exact rend_bad h
  | run p =>
    obtain ⟨hp, x, h⟩ := h
    by_cases ho : p < L.length
    · have ht : L[p]? = some (L[p]'ho) := List.getElem?_eq_getElem ho
      have e1 : endS L (.run p) = ((L[p]'ho).kind == 2 || (L[p]'ho).kind == 3) := by show isEnd L p = _; unfold isEnd; rw [ht]
      rw [e1]
      exact rend_on hL h hk ht
    · have e1 : endS L (.run p) = false := by show isEnd L p = _; unfold isEnd; rw [List.getElem?_eq_none (by omega)]
      rw [e1]
      exact rend_off h ho
end Go.Proofs.YtahdlijkohmdfaaGreatDoor
