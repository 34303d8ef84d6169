/- Texts joined: AvB, SyT, PsA, FrameS, TmA, TrS. -/
import Derived.Test.YtahdlijkohmdfaaGreatDoorMp26
import Derived.Test.YtahdlijkohmdfaaGreatDoorMp22
import Derived.Laws.Concat
import Derived.Test.YtahdlijkohmdfaaGreatDoorRows
import Derived.WalkKit
import Derived.ProofKit
import Derived.OpenShut
import Derived.Lib.SmallJoins
import Derived.Deep.DeepHandedRow
import Derived.Lib.LaidTab
import Derived.Stop.LaidErr
import Derived.LaidLaws
import Derived.Lib.LaidIn
import Derived.Test.YtahdlijkohmdfaaGreatDoorMp08
import Derived.Deep.RegionWith
set_option linter.all false
set_option linter.unusedVariables false
set_option linter.unusedSimpArgs false
namespace Go.Proofs.YtahdlijkohmdfaaGreatDoor
open Go.RowKit

theorem post_good {w : World} {t : Tr} {e : Ending} {w' : World} (h : PostS w (.good t) e w') : ∃ A ca, e = .returned (.tuple #[.agg #[.int .i64 t.kind, .int .i64 t.num, .int .i64 t.c1, .int .i64 t.r1, .int .i64 t.c2, .int .i64 t.r2, .string ⟨t.word.toArray⟩, .slice A t.kids.length ca], .int .i64 0, .int .i64 0]) ∧ KV w' (fun _ => True) t A ∧ Below w.heap.size w w' := by
  obtain ⟨⟨x, he, hx⟩, hb⟩ := h
  obtain ⟨A, ca, rfl, hk⟩ := hx
  exact ⟨A, ca, he, hk.imp fun _ _ => trivial, hb⟩
theorem parse_good {l : List UInt8} {t : Tr} (h : parseL l = .good t) (hl : l.length ≤ 1000000) (w : World) (hE : EnvP w) :
    Calls Tryz.prog 6 #[.string ⟨l.toArray⟩] w fun e w' => ∃ A ca, e = .returned (.tuple #[.agg #[.int .i64 t.kind, .int .i64 t.num, .int .i64 t.c1, .int .i64 t.r1, .int .i64 t.c2, .int .i64 t.r2, .string ⟨t.word.toArray⟩, .slice A t.kids.length ca], .int .i64 0, .int .i64 0]) ∧ KV w' (fun _ => True) t A ∧ Below w.heap.size w w' := by
  refine (sparse_any ⟨l.toArray⟩ (by rw [← len_of]; simp; omega) w hE).mono fun e w' hp => ?_
  have e1 : (⟨l.toArray⟩ : ByteArray).data.toList = l := by simp
  rw [e1, h] at hp
  exact post_good hp
theorem parse_fail {l : List UInt8} {a c : Int} (h : parseL l = .fail a c) (hl : l.length ≤ 1000000) (w : World) (hE : EnvP w) :
    Calls Tryz.prog 6 #[.string ⟨l.toArray⟩] w fun e w' => e = .returned (.tuple #[.agg #[.int .i64 0, .int .i64 0, .int .i64 0, .int .i64 0, .int .i64 0, .int .i64 0, .string ⟨#[]⟩, .slice none 0 0], .int .i64 a, .int .i64 c]) ∧ Below w.heap.size w w' := by
  refine (sparse_any ⟨l.toArray⟩ (by rw [← len_of]; simp; omega) w hE).mono fun e w' hp => ?_
  have e1 : (⟨l.toArray⟩ : ByteArray).data.toList = l := by simp
  rw [e1, h] at hp
  exact hp
def Here (w : World) (g : Nat) (t : Tr) (A : Option Addr) (ca : Nat) : Prop :=
  w.cell? ⟨g, 0, none⟩ = some (.int .i64 t.kind) ∧ w.cell? ⟨g, 1, none⟩ = some (.int .i64 t.num) ∧ w.cell? ⟨g, 2, none⟩ = some (.int .i64 t.c1) ∧ w.cell? ⟨g, 3, none⟩ = some (.int .i64 t.r1) ∧
  w.cell? ⟨g, 4, none⟩ = some (.int .i64 t.c2) ∧ w.cell? ⟨g, 5, none⟩ = some (.int .i64 t.r2) ∧ w.cell? ⟨g, 6, none⟩ = some (.string ⟨t.word.toArray⟩) ∧ w.cell? ⟨g, 7, none⟩ = some (.slice A t.kids.length ca)
theorem Here.below {w w' : World} {g : Nat} {t : Tr} {A : Option Addr} {ca : Nat} (h : Here w g t A ca) (hb : Below w.heap.size w w') : Here w' g t A ca := by
  obtain ⟨h0, h1, h2, h3, h4, h5, h6, h7⟩ := h
  refine ⟨?_, ?_, ?_, ?_, ?_, ?_, ?_, ?_⟩
  all_goals (rw [hb.cell (Lib.lt_of_cell (by assumption))]; assumption)
theorem Here.new (w : World) (t : Tr) (A : Option Addr) (ca : Nat) : Here (w.alloc (.cells #[.int .i64 t.kind, .int .i64 t.num, .int .i64 t.c1, .int .i64 t.r1, .int .i64 t.c2, .int .i64 t.r2, .string ⟨t.word.toArray⟩, .slice A t.kids.length ca] 30)) w.heap.size t A ca :=
  cells8_of (heap_alloc_new w _)
theorem Here.alloc {w : World} {g : Nat} {t : Tr} {A : Option Addr} {ca : Nat} (h : Here w g t A ca) (ob : Obj) : Here (w.alloc ob) g t A ca := h.below ((Below.refl _ _).alloc (Nat.le_refl _) ob)
theorem belowAlloc {n : Nat} {w w' : World} (h : Below n w w') (hn : n ≤ w'.heap.size) (ob : Obj) : Below n w (w'.alloc ob) := h.alloc hn ob
def zeroT : Obj := .cells #[.int .i64 0, .int .i64 0, .int .i64 0, .int .i64 0, .int .i64 0, .int .i64 0, .string ⟨#[]⟩, .slice none 0 0] 30
theorem parsed_1 : Parsed tr1 := by
  have h := (right_iff tr1).1 right_1
  refine ⟨?_, ?_, h.2.2, h.1, h.2.1⟩
  · unfold tr1 opT numT readT callT negT spanT badT
    refine .mk (by decide) fun u hu => ?_
    simp only [List.mem_cons, List.not_mem_nil, or_false] at hu
    rcases hu with rfl | rfl
    · refine .mk (by decide) fun u hu => ?_
      simp only [List.mem_cons, List.not_mem_nil, or_false] at hu
      rcases hu with rfl | rfl <;> exact .mk (by decide) fun u hu => by cases hu
    · refine .mk (by decide) fun u hu => ?_
      simp only [List.mem_cons, List.not_mem_nil, or_false] at hu
      rcases hu with rfl | rfl
      · refine .mk (by decide) fun u hu => ?_
        simp only [List.mem_cons, List.not_mem_nil, or_false] at hu
        rcases hu with rfl | rfl <;> exact .mk (by decide) fun u hu => by cases hu
      · refine .mk (by decide) fun u hu => ?_
        simp only [List.mem_cons, List.not_mem_nil, or_false] at hu
        rcases hu with rfl | rfl | rfl
        · exact .mk (by decide) fun u hu => by cases hu
        · refine .mk (by decide) fun u hu => ?_
          simp only [List.mem_cons, List.not_mem_nil, or_false] at hu
          rcases hu with rfl
          refine .mk (by decide) fun u hu => ?_
          simp only [List.mem_cons, List.not_mem_nil, or_false] at hu
          rcases hu with rfl | rfl <;> exact .mk (by decide) fun u hu => by cases hu
        · exact .mk (by decide) fun u hu => by cases hu
  · unfold tr1
    refine fit_two (fit_two (fit_leaf (by decide)) (fit_leaf (by decide))) (fit_two (fit_two (fit_leaf (by decide)) (fit_leaf (by decide))) (fit_three (fit_leaf (by decide)) (fit_one (by decide) (fit_two (fit_leaf (by decide)) (fit_leaf (by decide)))) (fit_leaf (by decide))))
set_option maxHeartbeats 4000000 in
set_option maxRecDepth 10000 in
theorem salive (w : World) (hE : EnvP w) (hI : EnvI w) :
    Calls Tryz.prog 5 #[] w fun e w' => e = .returned (.bool true) ∧ Below w.heap.size w w' := by
  have HE := Lib.hid hE
  have P1 := Lib.hid (fun w => parse_good parse_1 (by decide) w)
  have HPr : Hid (∀ (w : World) (A : Option Addr) (ca : Nat), KV w (fun _ => True) tr1 A → EnvI w → Strs w.heap.size w.heap.size w → Calls Tryz.prog 9 #[tv tr1 A ca] w fun e w' => e = .returned (.string ⟨#[49, 45, 50, 45, 40, 51, 45, 65, 49, 41, 42, 83, 85, 77, 40, 66, 49, 58, 67, 51, 44, 45, 40, 52, 60, 53, 41, 44, 35, 82, 69, 70, 41]⟩) ∧ Below w.heap.size w w') := Lib.hid fun w A ca hA hI hS => by
    have h := sprint_yes tr1 parsed_1.wid parsed_1.fit right_1 (by rw [text_1]; decide) w A ca hA hI hS
    rw [text_1] at h
    exact h
  have HDe : Hid (∀ (w : World) (A : Option Addr) (ca : Nat), KV w (fun _ => True) tr1 A → Calls Tryz.prog 14 #[tv tr1 A ca] w fun e w' => e = .returned (.int .i64 6) ∧ Below w.heap.size w w') := Lib.hid fun w A ca hA => by
    have h := pdeep_any 16 tr1 parsed_1.deep (by decide) parsed_1.wid w _ A ca hA
    rw [deep_1] at h
    exact h
  have HRi : Hid (∀ (w : World) (A : Option Addr) (ca : Nat), KV w (fun _ => True) tr1 A → Strs w.heap.size w.heap.size w → Calls Tryz.prog 10 #[tv tr1 A ca] w fun e w' => e = .returned (.bool true) ∧ Below w.heap.size w w') := Lib.hid fun w A ca hA hS => by
    have h := sright_any tr1 parsed_1.wid w _ A ca hA w.heap.size (Nat.le_refl _) hS
    rw [right_1] at h
    exact h
  have HI := Lib.hid hI
  have hlen := parsed_1.wid.len
  unfold maxLen at hlen
  unfold tv at HPr HDe HRi
  clear hE hI
  generalize tr1 = T at *
  go_enter Tryz.func5, Tryz.ntmps5
  go_wp2_with fail
  refine (P1.out _ HE.out).mono ?_; rintro e w1 ⟨A, ca, rfl, ht, b1⟩
  have H1 := Lib.hid (belowAlloc b1 b1.size (.cells #[.int .i64 T.kind, .int .i64 T.num, .int .i64 T.c1, .int .i64 T.r1, .int .i64 T.c2, .int .i64 T.r2, .string ⟨T.word.toArray⟩, .slice A T.kids.length ca] 30))
  have C1 := Lib.hid (Here.new w1 T A ca)
  have K1 : Hid (KV (w1.alloc (.cells #[.int .i64 T.kind, .int .i64 T.num, .int .i64 T.c1, .int .i64 T.r1, .int .i64 T.c2, .int .i64 T.r2, .string ⟨T.word.toArray⟩, .slice A T.kids.length ca] 30)) (fun _ => True) T A) := Lib.hid (ht.kept (Kept.of_below ((Below.refl _ _).alloc (Nat.le_refl _) _)))
  clear b1 ht
  go_wp2_with fail
  refine (parse_fail parse_2 (by decide) _ (HE.out.below H1.out)).mono ?_; rintro e w2 ⟨rfl, b2⟩
  have H2 := Lib.hid (belowAlloc (H1.out.trans (b2.mono H1.out.size)) (Nat.le_trans H1.out.size b2.size) zeroT)
  have C2 := Lib.hid ((C1.out.below b2).alloc zeroT)
  have K2 : Hid (KV (w2.alloc zeroT) (fun _ => True) T A) := Lib.hid ((K1.out.kept (Kept.of_below b2)).kept (Kept.of_below ((Below.refl _ _).alloc (Nat.le_refl _) _)))
  clear b2 H1 C1 K1
  unfold zeroT at H2 C2 K2
  go_wp2_with fail
  refine (parse_fail parse_3 (by decide) _ (HE.out.below H2.out)).mono ?_; rintro e w3 ⟨rfl, b3⟩
  have H3 := Lib.hid (belowAlloc (H2.out.trans (b3.mono H2.out.size)) (Nat.le_trans H2.out.size b3.size) zeroT)
  have C3 := Lib.hid ((C2.out.below b3).alloc zeroT)
  have K3 : Hid (KV (w3.alloc zeroT) (fun _ => True) T A) := Lib.hid ((K2.out.kept (Kept.of_below b3)).kept (Kept.of_below ((Below.refl _ _).alloc (Nat.le_refl _) _)))
  clear b3 H2 C2 K2
  unfold zeroT at H3 C3 K3
  go_wp2_with fail
  refine (parse_fail parse_4 (by decide) _ (HE.out.below H3.out)).mono ?_; rintro e w4 ⟨rfl, b4⟩
  have H4 := Lib.hid (belowAlloc (H3.out.trans (b4.mono H3.out.size)) (Nat.le_trans H3.out.size b4.size) zeroT)
  have C4 := Lib.hid ((C3.out.below b4).alloc zeroT)
  have K4 : Hid (KV (w4.alloc zeroT) (fun _ => True) T A) := Lib.hid ((K3.out.kept (Kept.of_below b4)).kept (Kept.of_below ((Below.refl _ _).alloc (Nat.le_refl _) _)))
  clear b4 H3 C3 K3
  unfold zeroT at H4 C4 K4
  obtain ⟨c0, c1, c2, c3, c4, c5, c6, c7⟩ := C4.out
  go_wp2_with fail
  refine (HPr.out _ _ _ K4.out (HI.out.below H4.out) (HE.out.below H4.out).s).mono ?_; rintro e w5 ⟨rfl, b5⟩
  have H5 := Lib.hid (H4.out.trans (b5.mono H4.out.size))
  have C5 := Lib.hid (C4.out.below b5)
  have K5 := Lib.hid (K4.out.kept (Kept.of_below b5))
  clear b5 H4 C4 K4 c0 c1 c2 c3 c4 c5 c6 c7
  obtain ⟨c0, c1, c2, c3, c4, c5, c6, c7⟩ := C5.out
  go_wp2_with fail
  refine (HDe.out _ _ _ K5.out).mono ?_; rintro e w6 ⟨rfl, b6⟩
  have H6 := Lib.hid (H5.out.trans (b6.mono H5.out.size))
  have C6 := Lib.hid (C5.out.below b6)
  have K6 := Lib.hid (K5.out.kept (Kept.of_below b6))
  clear b6 H5 C5 K5 c0 c1 c2 c3 c4 c5 c6 c7
  obtain ⟨c0, c1, c2, c3, c4, c5, c6, c7⟩ := C6.out
  go_wp2_with fail
  refine (HRi.out _ _ _ K6.out (HE.out.below H6.out).s).mono ?_; rintro e w7 ⟨rfl, b7⟩
  have H7 := Lib.hid (H6.out.trans (b7.mono H6.out.size))
  clear b7 H6 C6 K6 c0 c1 c2 c3 c4 c5 c6 c7
  go_wp2_with fail
  go_ret
  exact ⟨rfl, H7.out⟩
end Go.Proofs.YtahdlijkohmdfaaGreatDoor
namespace Go.Proofs.YtahdlijkohmdfaaGreatDoor

theorem parse_inv {l : List UInt8} {a : Tr} (h : parseL l = .good a) : l.length ≤ 200 ∧ ansE l = 0 ∧ treeT (ansL l) l.length = some (.ok a (ansL l).length) ∧ deepT a ≤ 16 := by
  unfold parseL at h
  by_cases h0 : ansE l = 0
  · have hl : l.length ≤ 200 := by
      rcases Nat.lt_or_ge 200 l.length with g | g
      · have e3 : ansE l = 3 := if_pos g
        rw [e3] at h0; cases h0
      · exact g
    rw [if_neg (fun g => g h0)] at h
    obtain ⟨x, hx, hq⟩ := tree_some (ansL l) l.length
    rw [hx] at h
    cases x with
    | bad z => cases h
    | ok t q =>
      have hqn := hq t q rfl
      dsimp only at h
      by_cases h1 : q < (ansL l).length
      · rw [if_pos h1] at h; cases h
      · rw [if_neg h1] at h
        by_cases h2 : 16 < deepT t
        · rw [if_pos h2] at h; cases h
        · rw [if_neg h2] at h
          cases h
          have e : q = (ansL l).length := by omega
          subst e
          exact ⟨hl, h0, hx, by omega⟩
  · rw [if_pos h0] at h; cases h
theorem parse_of {l : List UInt8} {t : Tr} (h0 : ansE l = 0) (ht : treeT (ansL l) l.length = some (.ok t (ansL l).length)) : parseL l = if 16 < deepT t then .fail 0 6 else .good t := by
  unfold parseL
  rw [if_neg (fun g => g h0), ht]
  dsimp only
  rw [if_neg (Nat.lt_irrefl _)]
theorem parse_parsed {l : List UInt8} {a : Tr} (h : parseL l = .good a) : Parsed a := by
  obtain ⟨hl, h0, ht, hd⟩ := parse_inv h
  obtain ⟨s, ts, hp⟩ := tree_may (good_ans h0 hl) ht
  have hm : mayB a = true ∧ a.kind ≠ 6 := pr_may hp
  exact ⟨(tree_wid (ans_len l) ht).1, pr_fit hp, hm.1, hm.2, hd⟩
end Go.Proofs.YtahdlijkohmdfaaGreatDoor
namespace Go.Proofs.YtahdlijkohmdfaaGreatDoor
open Go.RowKit

theorem parse_goodB {s : ByteArray} {t : Tr} (hs : s.size ≤ 9223372036854775807) (h : parseL s.data.toList = .good t) (w : World) (hE : EnvP w) :
    Calls Tryz.prog 6 #[.string s] w fun e w' => ∃ A ca, e = .returned (.tuple #[.agg #[.int .i64 t.kind, .int .i64 t.num, .int .i64 t.c1, .int .i64 t.r1, .int .i64 t.c2, .int .i64 t.r2, .string ⟨t.word.toArray⟩, .slice A t.kids.length ca], .int .i64 0, .int .i64 0]) ∧ KV w' (fun _ => True) t A ∧ Below w.heap.size w w' := by
  refine (sparse_any s hs w hE).mono fun e w' hp => ?_
  rw [h] at hp
  exact post_good hp
theorem parse_failB {s : ByteArray} {a c : Int} (hs : s.size ≤ 9223372036854775807) (h : parseL s.data.toList = .fail a c) (w : World) (hE : EnvP w) :
    Calls Tryz.prog 6 #[.string s] w fun e w' => e = .returned (.tuple #[.agg #[.int .i64 0, .int .i64 0, .int .i64 0, .int .i64 0, .int .i64 0, .int .i64 0, .string ⟨#[]⟩, .slice none 0 0], .int .i64 a, .int .i64 c]) ∧ Below w.heap.size w w' := by
  refine (sparse_any s hs w hE).mono fun e w' hp => ?_
  rw [h] at hp
  exact hp
theorem parse_anyB {s : ByteArray} (hs : s.size ≤ 9223372036854775807) (w : World) (hE : EnvP w) :
    Calls Tryz.prog 6 #[.string s] w fun e w' => ∃ n0 n1 n2 n3 n4 n5 z A l ca p c, e = .returned (.tuple #[.agg #[.int .i64 n0, .int .i64 n1, .int .i64 n2, .int .i64 n3, .int .i64 n4, .int .i64 n5, .string z, .slice A l ca], .int .i64 p, .int .i64 c]) ∧ Below w.heap.size w w' := by
  cases h : parseL s.data.toList with
  | good t => exact (parse_goodB hs h w hE).mono fun e w' ⟨A, ca, he, _, hb⟩ => ⟨_, _, _, _, _, _, _, _, _, _, _, _, he, hb⟩
  | fail a c => exact (parse_failB hs h w hE).mono fun e w' ⟨he, hb⟩ => ⟨_, _, _, _, _, _, _, _, _, _, _, _, he, hb⟩
theorem fail_ne {l : List UInt8} {a c : Int} (h : parseL l = .fail a c) : (c != 0) = true := by
  rw [bne_iff_ne]
  rintro rfl
  unfold parseL at h
  by_cases h0 : ansE l = 0
  · rw [if_neg (fun g => g h0)] at h
    obtain ⟨x, hx, _⟩ := tree_some (ansL l) l.length
    rw [hx] at h
    cases x with
    | bad z => dsimp only at h; injection h with _ h; cases h
    | ok t q =>
      dsimp only at h
      by_cases h1 : q < (ansL l).length
      · rw [if_pos h1] at h; injection h with _ h; cases h
      · rw [if_neg h1] at h
        by_cases h2 : 16 < deepT t
        · rw [if_pos h2] at h; injection h with _ h; cases h
        · rw [if_neg h2] at h; cases h
  · rw [if_pos h0] at h; injection h with _ h; exact h0 h
def Yes (w : World) (e : Ending) (w' : World) : Prop := e = .returned (.bool true) ∧ Below w.heap.size w w'
def vT (n0 n1 n2 n3 n4 n5 : Int) (z : ByteArray) (A : Option Addr) (l ca : Nat) : Obj := .cells #[.int .i64 n0, .int .i64 n1, .int .i64 n2, .int .i64 n3, .int .i64 n4, .int .i64 n5, .string z, .slice A l ca] 30
def valT (t : Tr) (A : Option Addr) (ca : Nat) : Obj := vT t.kind t.num t.c1 t.r1 t.c2 t.r2 ⟨t.word.toArray⟩ A t.kids.length ca
def Stays (Q : World → Prop) : Prop := ∀ w w', Q w → Below w.heap.size w w' → Q w'
theorem Stays.and {P Q : World → Prop} (hp : Stays P) (hq : Stays Q) : Stays (fun w => P w ∧ Q w) := fun _ _ h hb => ⟨hp _ _ h.1 hb, hq _ _ h.2 hb⟩
theorem stays_here (g : Nat) (t : Tr) (A : Option Addr) (ca : Nat) : Stays (fun w => Here w g t A ca) := fun _ _ h hb => h.below hb
theorem stays_kv (t : Tr) (A : Option Addr) : Stays (fun w => KV w (fun _ => True) t A) := fun _ _ h hb => h.kept (Kept.of_below hb)
theorem stays_at8 (g o : Nat) (t : Tr) (A : Option Addr) (ca : Nat) : Stays (fun w => At8 w g o t A ca) := fun _ _ h hb => h.kept (P := fun _ => True) (Kept.of_below hb) trivial
theorem stays_cell (p : Addr) (v : Value) : Stays (fun w => w.cell? p = some v) := fun _ _ h hb => (hb.cell (Lib.lt_of_cell h)).trans h
theorem Stays.al {Q : World → Prop} (h : Stays Q) {w : World} (hq : Q w) (ob : Obj) : Q (w.alloc ob) := h _ _ hq ((Below.refl _ _).alloc (Nat.le_refl _) ob)
theorem same_self (t : Tr) (ht : Wid t) (w : World) (A B : Option Addr) (ca cb : Nat) (hA : KV w (fun _ => True) t A) (hB : KV w (fun _ => True) t B) :
    Calls Tryz.prog 16 #[.agg #[.int .i64 t.kind, .int .i64 t.num, .int .i64 t.c1, .int .i64 t.r1, .int .i64 t.c2, .int .i64 t.r2, .string ⟨t.word.toArray⟩, .slice A t.kids.length ca], .agg #[.int .i64 t.kind, .int .i64 t.num, .int .i64 t.c1, .int .i64 t.r1, .int .i64 t.c2, .int .i64 t.r2, .string ⟨t.word.toArray⟩, .slice B t.kids.length cb]] w fun e w' => e = .returned (.bool true) ∧ Below w.heap.size w w' :=
  (psame_any t t ht ht w _ _ A B ca cb hA hB).mono fun e w' ⟨⟨b, he, hb⟩, h⟩ => ⟨by rw [he, hb.2 rfl], h⟩
theorem deep_any (t : Tr) (h : deepT t ≤ 16) (ht : Wid t) (w : World) (A : Option Addr) (ca : Nat) (hA : KV w (fun _ => True) t A) :
    Calls Tryz.prog 14 #[.agg #[.int .i64 t.kind, .int .i64 t.num, .int .i64 t.c1, .int .i64 t.r1, .int .i64 t.c2, .int .i64 t.r2, .string ⟨t.word.toArray⟩, .slice A t.kids.length ca]] w fun e w' => e = .returned (.int .i64 (deepT t : Int)) ∧ Below w.heap.size w w' :=
  pdeep_any 16 t h (by decide) ht w _ A ca hA
end Go.Proofs.YtahdlijkohmdfaaGreatDoor
namespace Go.Proofs.YtahdlijkohmdfaaGreatDoor
open Go.ChangeShapes Go.WideShapes Go.ChangeAt Go.RowKit

theorem own : ownKnob Tryz.prog.godebug = none := by kernel_rfl
theorem ySyn : (Tryz.prog.globals[2]?).map (·.type) = some 75 := by kernel_rfl
theorem yRng : (Tryz.prog.globals[3]?).map (·.type) = some 75 := by kernel_rfl
theorem yTab : (Tryz.prog.globals[4]?).map (·.type) = some 147 := by kernel_rfl
theorem gStr : Tryz.prog.globalNamed "gridiron/syntax.strengths" = some 0 := by kernel_rfl
theorem yStr : (Tryz.prog.globals[0]?).map (·.type) = some 101 := by kernel_rfl
theorem cellsTab : Tryz.prog.cellsOf 147 = 20 := by kernel_rfl
theorem cellsU64 : Tryz.prog.cellsOf 105 = 1 := by kernel_rfl
theorem cellsErrS : Tryz.prog.cellsOf 155 = 1 := by kernel_rfl
theorem cellsStr : Tryz.prog.cellsOf 9 = 1 := by kernel_rfl
theorem cellsRow : Tryz.prog.cellsOf 100 = 1 := by kernel_rfl
theorem cellsThree : Tryz.prog.cellsOf 101 = 3 := by kernel_rfl
theorem starE : "*" ++ "errors.errorString" = "*errors.errorString" := by decide
theorem rowE (u : TypeId) (h : Tryz.prog.typeName? 3 u = some "*errors.errorString") : u = 153 :=
  typeName_ptr_named (nm := "errors.errorString") (by rw [starE]; kernel_rfl) (by kernel_rfl) (by decide) u (by rw [starE]; exact h)

theorem ba_of_list {s : ByteArray} {l : List UInt8} (h : s.data.toList = l) : s = ⟨l.toArray⟩ := by
  obtain ⟨d⟩ := s
  simp only at h
  rw [← h]
theorem strs_of_trod {w : World} {fuel : Nat} {c : Value} {y : DataW Unit × List MemPlace} {l : List ByteArray} (hl : 0 < l.length)
    (h : DataW.trod (fun _ => ()) Tryz.prog w 0 (fun _ => true) false fuel 100 [c] = some y) (hy : y.1 = .slice (l.map fun s => .lit (.string s.data.toList)) []) :
    ∃ g o cap, c = .slice (some ⟨g, o, none⟩) l.length cap ∧ SAt w g o l := by
  rcases DataW.trod_slice Tryz.underlying100 h with ⟨_, hx⟩ | ⟨a, len, cap, el, rs, m, rfl, hcs, hx, _, hlc, _, hel, helem, hsp, _⟩
  · rw [hx] at hy; cases hy
  rw [hx] at hy
  simp only [DataW.slice.injEq] at hy
  obtain ⟨eE, eR⟩ := hy
  have hlen : len = l.length := by
    have := congrArg List.length eE
    simp at this
    omega
  have hcell : ∀ i (s : ByteArray), l[i]? = some s → w.cell? (a.add i) = some (.string s) := by
    intro i s hi
    have hil : i < l.length := (List.getElem?_eq_some_iff.1 hi).1
    have h1 := helem i (by omega)
    rw [cellsStr] at h1
    obtain ⟨b, hb⟩ : ∃ b, el[i]? = some b := ⟨el[i]'(by omega), List.getElem?_eq_getElem (by omega)⟩
    rw [hb] at h1
    obtain ⟨ce, hce, hte⟩ := Option.bind_eq_some_iff.1 h1
    obtain ⟨z, hz, hbz, _⟩ := DataW.trod_string Tryz.underlying9 hte
    have hb1 : b.1 = .lit (.string s.data.toList) := by
      have h5 : (el.map (·.1))[i]? = some b.1 := by rw [List.getElem?_map, hb]; rfl
      rw [eE, List.getElem?_map, hi] at h5
      exact (Option.some.inj h5).symm
    rw [hbz] at hb1
    simp only [DataW.lit.injEq, Lit.string.injEq] at hb1
    have hzs : z = s := by
      have := ba_of_list hb1
      rw [this]
    obtain ⟨_, _, hcc⟩ := World.cells?_some hce
    have := hcc 0 (by omega)
    rw [hz] at this
    simp only [Nat.mul_one] at this
    have e1 : (a.add i).add 0 = a.add i := by simp [Addr.add]
    rw [e1] at this
    rw [this, hzs]
    rfl
  obtain ⟨R, o, sR⟩ := a
  obtain ⟨s0, hs0⟩ : ∃ s, l[0]? = some s := ⟨l[0]'hl, List.getElem?_eq_getElem hl⟩
  have h00 := hcell 0 s0 hs0
  have hspot : sR = none := by simpa [Addr.add] using World.cell?_spot h00
  subst hspot
  refine ⟨R, o, cap, ?_, fun j s hj => ?_⟩
  · simp only [List.cons.injEq, and_true] at hcs
    rw [hcs, hlen]
  · have := hcell j s hj
    rwa [add_plain] at this
theorem strs_of {w : World} {r : List (String × DataW Unit)} (h : laidMet Tryz.prog (("gridiron/syntax.strengths", Rows.laid_gridiron_syntax_strengths) :: r) w) : Strs w.heap.size w.heap.size w := by
  obtain ⟨ps, ⟨g, t, cs, fuel, p, q, hg, ht, hvar, hd, _, _⟩, _⟩ := h
  obtain rfl := Option.some.inj (gStr.symm.trans hg)
  obtain rfl := Option.some.inj (yStr.symm.trans ht)
  obtain ⟨l⟩ := cs
  cases fuel with
  | zero => simp [DataW.trod] at hd
  | succ fuel =>
    simp only [DataW.trod, Tryz.underlying101, cellsThree, cellsRow] at hd
    split at hd
    · rename_i hl
      obtain ⟨c0, c1, c2, rfl⟩ : ∃ c0 c1 c2, l = [c0, c1, c2] := by
        match l, hl with
        | [a, b, c], _ => exact ⟨a, b, c, rfl⟩
      have e : List.range 3 = [0, 1, 2] := rfl
      rw [e] at hd
      simp only [Option.map_eq_some_iff, List.mapM_cons, List.mapM_nil, Option.bind_eq_bind, Option.bind_eq_some_iff, Option.pure_def, Option.some.injEq] at hd
      obtain ⟨xs, ⟨y0, h0, _, ⟨y1, h1, _, ⟨y2, h2, _, rfl, rfl⟩, rfl⟩, rfl⟩, hx⟩ := hd
      have hx1 := congrArg Prod.fst hx
      simp only [Rows.laid_gridiron_syntax_strengths, List.map_cons, List.map_nil, DataW.agg.injEq, List.cons.injEq, and_true] at hx1
      obtain ⟨e0, e1, e2⟩ := hx1
      obtain ⟨g0, o0, k0, rfl, a0⟩ := strs_of_trod (l := strL 0) (by decide) h0 e0
      obtain ⟨g1, o1, k1, rfl, a1⟩ := strs_of_trod (l := strL 1) (by decide) h1 e1
      obtain ⟨g2, o2, k2, rfl, a2⟩ := strs_of_trod (l := strL 2) (by decide) h2 e2
      have v0 := World.var?_cell hg hvar 0
      have v1 := World.var?_cell hg hvar 1
      have v2 := World.var?_cell hg hvar 2
      have hG : 0 < w.heap.size := Lib.lt_of_cell v0
      have l0 : g0 < w.heap.size := Lib.lt_of_cell (a0 0 _ rfl)
      have l1 : g1 < w.heap.size := Lib.lt_of_cell (a1 0 _ rfl)
      have l2 : g2 < w.heap.size := Lib.lt_of_cell (a2 0 _ rfl)
      refine ⟨⟨Nat.ne_of_gt hG, hG⟩, fun i hi => ?_⟩
      match i, hi with
      | 0, _ => exact ⟨g0, o0, k0, ⟨Nat.ne_of_lt l0, l0⟩, v0, a0⟩
      | 1, _ => exact ⟨g1, o1, k1, ⟨Nat.ne_of_lt l1, l1⟩, v1, a1⟩
      | 2, _ => exact ⟨g2, o2, k2, ⟨Nat.ne_of_lt l2, l2⟩, v2, a2⟩
    · cases hd
theorem env_of {w : World} (h : laidMet Tryz.prog Rows.syntaxParsesRow.laid w) : EnvP w ∧ EnvI w := by
  have h3 := h.tail.tail
  have h4 := h3.tail
  have h5 := h4.tail
  refine ⟨⟨⟨?_, ?_⟩, strs_of h5.tail⟩, ⟨Lib.tabIs_of_head (rest := _) gTab yTab Tryz.underlying147 Tryz.underlying105 cellsU64 cellsTab h3⟩⟩
  · obtain ⟨a, s, hv, _⟩ := laid_sentinel h4 gRng yRng Tryz.underlying75 rowE Tryz.underlying153 Tryz.underlying155 rfl rfl Tryz.underlying9 cellsErrS cellsStr
    exact ⟨_, _, hv⟩
  · obtain ⟨a, s, hv, _⟩ := laid_sentinel h5 gSyn ySyn Tryz.underlying75 rowE Tryz.underlying153 Tryz.underlying155 rfl rfl Tryz.underlying9 cellsErrS cellsStr
    exact ⟨_, _, hv⟩

def valsOf : DataW Unit → List Value
  | .agg ds => ds.map fun
    | .lit (.int k n) => .int k n
    | _ => .nilIface
  | _ => []
abbrev synS : ByteArray := { data := #[105, 110, 118, 97, 108, 105, 100, 32, 115, 121, 110, 116, 97, 120] }
abbrev rngS : ByteArray := { data := #[118, 97, 108, 117, 101, 32, 111, 117, 116, 32, 111, 102, 32, 114, 97, 110, 103, 101] }
noncomputable def low : Nat := (World.holding Tryz.prog default ⟨#[], #[], []⟩).heap.size
noncomputable def laidWorld (os : Os) : World :=
  let w0 := World.holding Tryz.prog os ⟨#[.cells #[.string synS] 155, .cells #[.string rngS] 155, .cells #[.string ⟨#[60]⟩, .string ⟨#[60, 61]⟩, .string ⟨#[61]⟩, .string ⟨#[60, 62]⟩, .string ⟨#[62, 61]⟩, .string ⟨#[62]⟩] 9, .cells #[.string ⟨#[43]⟩, .string ⟨#[45]⟩] 9, .cells #[.string ⟨#[42]⟩, .string ⟨#[47]⟩] 9], #[], []⟩
  let put (h : Array Obj) (g : Nat) (cs : Array Value) : Array Obj := h.modify g fun
    | .cells _ t frozen => .cells cs t frozen
    | o => o
  let h0 := put w0.heap 2 #[.iface 153 (.pointer (some ⟨low, 0, none⟩))]
  let h1 := put h0 3 #[.iface 153 (.pointer (some ⟨low + 1, 0, none⟩))]
  let h2 := put h1 4 (valsOf Rows.laid_internal_strconv_uint64pow10).toArray
  let h3 := put h2 5 (valsOf Rows.laid_math_bits_deBruijn32tab).toArray
  let h4 := put h3 6 (valsOf Rows.laid_math_bits_deBruijn64tab).toArray
  let h5 := put h4 0 #[.slice (some ⟨low + 2, 0, none⟩) 6 6, .slice (some ⟨low + 3, 0, none⟩) 2 2, .slice (some ⟨low + 4, 0, none⟩) 2 2]
  { w0 with heap := h5 }
theorem laid_met (os : Os) (args : Array Value) : laidMet Tryz.prog Rows.syntaxParsesRow.laid ((laidWorld os).forCall (fun _ _ => 0) ⟨#[], args, []⟩).memory :=
  laidMet_of_run' 8 (by kernel_rfl) (by kernel_rfl)
end Go.Proofs.YtahdlijkohmdfaaGreatDoor
namespace Go.Proofs.YtahdlijkohmdfaaGreatDoor
open Go.RowKit

theorem neq_self' {α : Type} [BEq α] [LawfulBEq α] (x : α) : (x != x) = false := by unfold bne; rw [beq_self_eq_true]; rfl
theorem print_back {t : Tr} (hf : Fit t) (hr : rightP t = true) (hs : ¬ (200 : Int) < ((⟨(printP t).toArray⟩ : ByteArray).size : Int)) : parseL (⟨(printP t).toArray⟩ : ByteArray).data.toList = .good t := by
  obtain ⟨h6, h16, hm⟩ := (right_iff t).1 hr
  obtain ⟨s, ts, hp⟩ := (may_ex hf hm).1 h6
  have hs2 : s = txT t := pr_tx hp
  subst hs2
  have e : (⟨(printP t).toArray⟩ : ByteArray).data.toList = txT t := by unfold printP; rw [if_pos hr]
  have hl : (txT t).length ≤ 200 := by
    rw [← len_of, e] at hs; omega
  rw [e]
  obtain ⟨h0, _, ht⟩ := pr_back hp hl
  rw [parse_of h0 (ht _), if_neg (by omega)]
end Go.Proofs.YtahdlijkohmdfaaGreatDoor
namespace Go.Proofs.YtahdlijkohmdfaaGreatDoor
open Go.RowKit

set_option maxHeartbeats 2000000 in
set_option maxRecDepth 10000 in
theorem rdeep_any : ∀ (d : Nat) (t : Tr), deepT t ≤ d → d ≤ 1000000000 → Wid t → ∀ (w : World) (P : Nat → Prop) (A : Option Addr) (cap : Nat), KV w P t A →
    Calls Tryz.prog 15 #[tv t A cap] w fun e w' => e = .returned (.int .i64 (deepT t : Int)) ∧ Below w.heap.size w w' := by
  intro d
  induction d with
  | zero => intro t h; rw [deep_eq] at h; omega
  | succ d ih =>
    intro t hd hb hw w P A cap hk
    unfold tv
    have hlen := hw.len
    unfold maxLen at hlen
    have HW := Lib.hid hw
    have HK := Lib.hid hk
    have HI := Lib.hid ih
    have HE := Lib.hid (deep_eq t)
    have hdl : deepL t.kids ≤ d := by rw [deep_eq] at hd; omega
    clear hk hd ih hw
    go_enter Tryz.func15, Tryz.ntmps15
    go_wp2_with fail
    go_loopw [3, 4] (fun vn vi wr => ∃ i : Nat, i ≤ t.kids.length ∧ vn = .int .i64 (deepL (t.kids.take i) : Int) ∧ vi = .int .i64 (i : Int) ∧ Below w.heap.size w wr ∧ w.heap.size < wr.heap.size ∧ wr.cell? ⟨w.heap.size, 7, none⟩ = some (.slice A t.kids.length cap)) (fun _ vi _ => t.kids.length - (intOf vi).toNat)
    case atStart => exact ⟨0, Nat.zero_le _, by rw [List.take_zero, deepL]; rfl, rfl, (Below.refl _ _).alloc (Nat.le_refl _) _, by simp, by simp [go_sem]⟩
    case round =>
      obtain ⟨i, hi, rfl, rfl, hbel, hsz, c7⟩ := hrel
      have htl := deep_take_le t.kids i
      by_cases hlt : i < t.kids.length
      · have hu : t.kids[i]? = some (t.kids[i]'hlt) := List.getElem?_eq_getElem hlt
        obtain ⟨g, o, rfl⟩ := HK.out.addr hu
        obtain ⟨hg, A', cap', h8, hkv⟩ := HK.out.kidAt hbel hu
        have htk := Lib.hid (deep_take hu)
        have hdu := deep_kid hu
        have HC := Lib.hid (HI.out _ (Nat.le_trans hdu hdl) (by omega) (HW.out.kid hu) wr _ A' cap' hkv)
        generalize t.kids[i]'hlt = u at *
        unfold At8 at h8
        unfold tv at HC
        obtain ⟨q0, q1, q2, q3, q4, q5, q6, q7⟩ := h8
        clear hkv hu
        go_wp2_with fail
        refine HC.out.mono ?_; rintro e w1 ⟨rfl, b1⟩
        have e7 := keep_cell b1 c7
        have s7 : w.heap.size < w1.heap.size := Nat.lt_of_lt_of_le hsz b1.size
        have hb1 := hbel.trans (b1.mono hbel.size)
        clear b1 c7 q0 q1 q2 q3 q4 q5 q6 q7
        go_wp2_with fail
        go_roundw
        case rel => exact ⟨i + 1, by omega, by rw [htk.out]; congr 1; omega, by go_num, hb1, s7, e7⟩
        case measure => simp [intOf]; omega
      · have hii : i = t.kids.length := by omega
        subst hii
        rw [List.take_length] at *
        have hw : wrap64 ((deepL t.kids : Int) + 1) = (deepL t.kids : Int) + 1 := IntWalk.wrap64_in _ (by omega)
        go_wp2_with fail
        go_ret
        exact ⟨ret_int (by have := HE.out; omega), hbel⟩
end Go.Proofs.YtahdlijkohmdfaaGreatDoor
