/- Texts joined: AvB, SyT, PsA, FrameT, SzA, TrZ. -/
import Derived.Test.YtahdlijkohmdfaaGreatDoorMg27
import Derived.Test.YtahdlijkohmdfaaGreatDoorMg23
import Derived.Test.YtahdlijkohmdfaaGreatDoorMg09
import Derived.Laws.Concat
import Derived.Test.YtahdlijkohmdfaaGreatDoorRows
import Derived.WalkKit
import Derived.ProofKit
import Derived.OpenShut
import Derived.Lib.SmallJoins
import Derived.Deep.DeepHandedRow
import Derived.Lib.LaidTab
import Derived.Stop.LaidErr
import Derived.LaidLaws
import Derived.Lib.LaidIn
import Derived.Deep.RegionWith
set_option linter.all false
set_option linter.unusedVariables false
set_option linter.unusedSimpArgs false
/- The live question's answer. -/
namespace Go.Proofs.YtahdlijkohmdfaaGreatDoor
open Go.RowKit

theorem post_good {w : World} {t : Tr} {e : Ending} {w' : World} (h : PostS w (.good t) e w') : ∃ A ca, e = .returned (.tuple #[.agg #[.int .i64 t.kind, .int .i64 t.num, .int .i64 t.c1, .int .i64 t.r1, .int .i64 t.c2, .int .i64 t.r2, .string ⟨t.word.toArray⟩, .slice A t.kids.length ca], .int .i64 0, .int .i64 0]) ∧ KV w' (fun _ => True) t A ∧ Below w.heap.size w w' := by
  obtain ⟨⟨x, he, hx⟩, hb⟩ := h
  obtain ⟨A, ca, rfl, hk⟩ := hx
  exact ⟨A, ca, he, hk.imp fun _ _ => trivial, hb⟩
theorem parse_good {l : List UInt8} {t : Tr} (h : parseL l = .good t) (hl : l.length ≤ 1000000) (w : World) (hE : EnvP w) :
    Calls Tryz.prog 6 #[.string ⟨l.toArray⟩] w fun e w' => ∃ A ca, e = .returned (.tuple #[.agg #[.int .i64 t.kind, .int .i64 t.num, .int .i64 t.c1, .int .i64 t.r1, .int .i64 t.c2, .int .i64 t.r2, .string ⟨t.word.toArray⟩, .slice A t.kids.length ca], .int .i64 0, .int .i64 0]) ∧ KV w' (fun _ => True) t A ∧ Below w.heap.size w w' := by
  refine (sparse_any ⟨l.toArray⟩ (by rw [← len_of]; simp; omega) w hE).mono fun e w' hp => ?_
  have e1 : (⟨l.toArray⟩ : ByteArray).data.toList = l := by simp
  rw [e1, h] at hp
  exact post_good hp
theorem parse_fail {l : List UInt8} {a c : Int} (h : parseL l = .fail a c) (hl : l.length ≤ 1000000) (w : World) (hE : EnvP w) :
    Calls Tryz.prog 6 #[.string ⟨l.toArray⟩] w fun e w' => e = .returned (.tuple #[.agg #[.int .i64 0, .int .i64 0, .int .i64 0, .int .i64 0, .int .i64 0, .int .i64 0, .string ⟨#[]⟩, .slice none 0 0], .int .i64 a, .int .i64 c]) ∧ Below w.heap.size w w' := by
  refine (sparse_any ⟨l.toArray⟩ (by rw [← len_of]; simp; omega) w hE).mono fun e w' hp => ?_
  have e1 : (⟨l.toArray⟩ : ByteArray).data.toList = l := by simp
  rw [e1, h] at hp
  exact hp
/-- a tree's eight cells, in a block of their own -/
def Here (w : World) (g : Nat) (t : Tr) (A : Option Addr) (ca : Nat) : Prop :=
  w.cell? ⟨g, 0, none⟩ = some (.int .i64 t.kind) ∧ w.cell? ⟨g, 1, none⟩ = some (.int .i64 t.num) ∧ w.cell? ⟨g, 2, none⟩ = some (.int .i64 t.c1) ∧ w.cell? ⟨g, 3, none⟩ = some (.int .i64 t.r1) ∧
  w.cell? ⟨g, 4, none⟩ = some (.int .i64 t.c2) ∧ w.cell? ⟨g, 5, none⟩ = some (.int .i64 t.r2) ∧ w.cell? ⟨g, 6, none⟩ = some (.string ⟨t.word.toArray⟩) ∧ w.cell? ⟨g, 7, none⟩ = some (.slice A t.kids.length ca)
theorem Here.below {w w' : World} {g : Nat} {t : Tr} {A : Option Addr} {ca : Nat} (h : Here w g t A ca) (hb : Below w.heap.size w w') : Here w' g t A ca := by
  obtain ⟨h0, h1, h2, h3, h4, h5, h6, h7⟩ := h
  refine ⟨?_, ?_, ?_, ?_, ?_, ?_, ?_, ?_⟩
  all_goals (rw [hb.cell (Lib.lt_of_cell (by assumption))]; assumption)
theorem Here.new (w : World) (t : Tr) (A : Option Addr) (ca : Nat) : Here (w.alloc (.cells #[.int .i64 t.kind, .int .i64 t.num, .int .i64 t.c1, .int .i64 t.r1, .int .i64 t.c2, .int .i64 t.r2, .string ⟨t.word.toArray⟩, .slice A t.kids.length ca] 30)) w.heap.size t A ca :=
  cells8_of (heap_alloc_new w _)
theorem Here.alloc {w : World} {g : Nat} {t : Tr} {A : Option Addr} {ca : Nat} (h : Here w g t A ca) (ob : Obj) : Here (w.alloc ob) g t A ca := h.below ((Below.refl _ _).alloc (Nat.le_refl _) ob)
theorem belowAlloc {n : Nat} {w w' : World} (h : Below n w w') (hn : n ≤ w'.heap.size) (ob : Obj) : Below n w (w'.alloc ob) := h.alloc hn ob
def zeroT : Obj := .cells #[.int .i64 0, .int .i64 0, .int .i64 0, .int .i64 0, .int .i64 0, .int .i64 0, .string ⟨#[]⟩, .slice none 0 0] 30
theorem parsed_1 : Parsed tr1 := by
  have h := (right_iff tr1).1 right_1
  refine ⟨?_, ?_, h.2.2, h.1, h.2.1⟩
  · unfold tr1 opT numT readT callT negT spanT badT
    refine .mk (by decide) fun u hu => ?_
    simp only [List.mem_cons, List.not_mem_nil, or_false] at hu
    rcases hu with rfl | rfl
    · refine .mk (by decide) fun u hu => ?_
      simp only [List.mem_cons, List.not_mem_nil, or_false] at hu
      rcases hu with rfl | rfl <;> exact .mk (by decide) fun u hu => by cases hu
    · refine .mk (by decide) fun u hu => ?_
      simp only [List.mem_cons, List.not_mem_nil, or_false] at hu
      rcases hu with rfl | rfl
      · refine .mk (by decide) fun u hu => ?_
        simp only [List.mem_cons, List.not_mem_nil, or_false] at hu
        rcases hu with rfl | rfl <;> exact .mk (by decide) fun u hu => by cases hu
      · refine .mk (by decide) fun u hu => ?_
        simp only [List.mem_cons, List.not_mem_nil, or_false] at hu
        rcases hu with rfl | rfl | rfl
        · exact .mk (by decide) fun u hu => by cases hu
        · refine .mk (by decide) fun u hu => ?_
          simp only [List.mem_cons, List.not_mem_nil, or_false] at hu
          rcases hu with rfl
          refine .mk (by decide) fun u hu => ?_
          simp only [List.mem_cons, List.not_mem_nil, or_false] at hu
          rcases hu with rfl | rfl <;> exact .mk (by decide) fun u hu => by cases hu
        · exact .mk (by decide) fun u hu => by cases hu
  · unfold tr1
    refine fit_two (fit_two (fit_leaf (by decide)) (fit_leaf (by decide))) (fit_two (fit_two (fit_leaf (by decide)) (fit_leaf (by decide))) (fit_three (fit_leaf (by decide)) (fit_one (by decide) (fit_two (fit_leaf (by decide)) (fit_leaf (by decide)))) (fit_leaf (by decide))))
set_option maxHeartbeats 4000000 in
set_option maxRecDepth 10000 in
theorem salive (w : World) (hE : EnvP w) (hI : EnvI w) :
    Calls Tryz.prog 5 #[] w fun e w' => e = .returned (.bool true) ∧ Below w.heap.size w w' := by
  have HE := Lib.hid hE
  have P1 := Lib.hid (fun w => parse_good parse_1 (by decide) w)
  have HPr : Hid (∀ (w : World) (A : Option Addr) (ca : Nat), KV w (fun _ => True) tr1 A → EnvI w → Strs w.heap.size w.heap.size w → Calls Tryz.prog 9 #[tv tr1 A ca] w fun e w' => e = .returned (.string ⟨#[49, 45, 50, 45, 40, 51, 45, 65, 49, 41, 42, 83, 85, 77, 40, 66, 49, 58, 67, 51, 44, 45, 40, 52, 60, 53, 41, 44, 35, 82, 69, 70, 41]⟩) ∧ Below w.heap.size w w') := Lib.hid fun w A ca hA hI hS => by
    have h := sprint_yes tr1 parsed_1.wid parsed_1.fit right_1 (by rw [text_1]; decide) w A ca hA hI hS
    rw [text_1] at h
    exact h
  have HDe : Hid (∀ (w : World) (A : Option Addr) (ca : Nat), KV w (fun _ => True) tr1 A → Calls Tryz.prog 14 #[tv tr1 A ca] w fun e w' => e = .returned (.int .i64 6) ∧ Below w.heap.size w w') := Lib.hid fun w A ca hA => by
    have h := pdeep_any 16 tr1 parsed_1.deep (by decide) parsed_1.wid w _ A ca hA
    rw [deep_1] at h
    exact h
  have HRi : Hid (∀ (w : World) (A : Option Addr) (ca : Nat), KV w (fun _ => True) tr1 A → Strs w.heap.size w.heap.size w → Calls Tryz.prog 10 #[tv tr1 A ca] w fun e w' => e = .returned (.bool true) ∧ Below w.heap.size w w') := Lib.hid fun w A ca hA hS => by
    have h := sright_any tr1 parsed_1.wid w _ A ca hA w.heap.size (Nat.le_refl _) hS
    rw [right_1] at h
    exact h
  have HI := Lib.hid hI
  have hlen := parsed_1.wid.len
  unfold maxLen at hlen
  unfold tv at HPr HDe HRi
  clear hE hI
  generalize tr1 = T at *
  go_enter Tryz.func5, Tryz.ntmps5
  go_wp2_with fail
  refine (P1.out _ HE.out).mono ?_; rintro e w1 ⟨A, ca, rfl, ht, b1⟩
  have H1 := Lib.hid (belowAlloc b1 b1.size (.cells #[.int .i64 T.kind, .int .i64 T.num, .int .i64 T.c1, .int .i64 T.r1, .int .i64 T.c2, .int .i64 T.r2, .string ⟨T.word.toArray⟩, .slice A T.kids.length ca] 30))
  have C1 := Lib.hid (Here.new w1 T A ca)
  have K1 : Hid (KV (w1.alloc (.cells #[.int .i64 T.kind, .int .i64 T.num, .int .i64 T.c1, .int .i64 T.r1, .int .i64 T.c2, .int .i64 T.r2, .string ⟨T.word.toArray⟩, .slice A T.kids.length ca] 30)) (fun _ => True) T A) := Lib.hid (ht.kept (Kept.of_below ((Below.refl _ _).alloc (Nat.le_refl _) _)))
  clear b1 ht
  go_wp2_with fail
  refine (parse_fail parse_2 (by decide) _ (HE.out.below H1.out)).mono ?_; rintro e w2 ⟨rfl, b2⟩
  have H2 := Lib.hid (belowAlloc (H1.out.trans (b2.mono H1.out.size)) (Nat.le_trans H1.out.size b2.size) zeroT)
  have C2 := Lib.hid ((C1.out.below b2).alloc zeroT)
  have K2 : Hid (KV (w2.alloc zeroT) (fun _ => True) T A) := Lib.hid ((K1.out.kept (Kept.of_below b2)).kept (Kept.of_below ((Below.refl _ _).alloc (Nat.le_refl _) _)))
  clear b2 H1 C1 K1
  unfold zeroT at H2 C2 K2
  go_wp2_with fail
  refine (parse_fail parse_3 (by decide) _ (HE.out.below H2.out)).mono ?_; rintro e w3 ⟨rfl, b3⟩
  have H3 := Lib.hid (belowAlloc (H2.out.trans (b3.mono H2.out.size)) (Nat.le_trans H2.out.size b3.size) zeroT)
  have C3 := Lib.hid ((C2.out.below b3).alloc zeroT)
  have K3 : Hid (KV (w3.alloc zeroT) (fun _ => True) T A) := Lib.hid ((K2.out.kept (Kept.of_below b3)).kept (Kept.of_below ((Below.refl _ _).alloc (Nat.le_refl _) _)))
  clear b3 H2 C2 K2
  unfold zeroT at H3 C3 K3
  go_wp2_with fail
  refine (parse_fail parse_4 (by decide) _ (HE.out.below H3.out)).mono ?_; rintro e w4 ⟨rfl, b4⟩
  have H4 := Lib.hid (belowAlloc (H3.out.trans (b4.mono H3.out.size)) (Nat.le_trans H3.out.size b4.size) zeroT)
  have C4 := Lib.hid ((C3.out.below b4).alloc zeroT)
  have K4 : Hid (KV (w4.alloc zeroT) (fun _ => True) T A) := Lib.hid ((K3.out.kept (Kept.of_below b4)).kept (Kept.of_below ((Below.refl _ _).alloc (Nat.le_refl _) _)))
  clear b4 H3 C3 K3
  unfold zeroT at H4 C4 K4
  obtain ⟨c0, c1, c2, c3, c4, c5, c6, c7⟩ := C4.out
  go_wp2_with fail
  refine (HPr.out _ _ _ K4.out (HI.out.below H4.out) (HE.out.below H4.out).s).mono ?_; rintro e w5 ⟨rfl, b5⟩
  have H5 := Lib.hid (H4.out.trans (b5.mono H4.out.size))
  have C5 := Lib.hid (C4.out.below b5)
  have K5 := Lib.hid (K4.out.kept (Kept.of_below b5))
  clear b5 H4 C4 K4 c0 c1 c2 c3 c4 c5 c6 c7
  obtain ⟨c0, c1, c2, c3, c4, c5, c6, c7⟩ := C5.out
  go_wp2_with fail
  refine (HDe.out _ _ _ K5.out).mono ?_; rintro e w6 ⟨rfl, b6⟩
  have H6 := Lib.hid (H5.out.trans (b6.mono H5.out.size))
  have C6 := Lib.hid (C5.out.below b6)
  have K6 := Lib.hid (K5.out.kept (Kept.of_below b6))
  clear b6 H5 C5 K5 c0 c1 c2 c3 c4 c5 c6 c7
  obtain ⟨c0, c1, c2, c3, c4, c5, c6, c7⟩ := C6.out
  go_wp2_with fail
  refine (HRi.out _ _ _ K6.out (HE.out.below H6.out).s).mono ?_; rintro e w7 ⟨rfl, b7⟩
  have H7 := Lib.hid (H6.out.trans (b7.mono H6.out.size))
  clear b7 H6 C6 K6 c0 c1 c2 c3 c4 c5 c6 c7
  go_wp2_with fail
  go_ret
  exact ⟨rfl, H7.out⟩
end Go.Proofs.YtahdlijkohmdfaaGreatDoor
/- Brackets, blanks, a minus, and an op, about texts that have trees: plain. -/
namespace Go.Proofs.YtahdlijkohmdfaaGreatDoor

/-- a text has tokens, wherever it begins -/
def LX (r : List UInt8) (bs : List Tok) : Prop := ∀ o, ∃ ts, Lex r o ts ∧ ts.map bareT = bs
theorem LX.of {l : List UInt8} (h : ansE l = 0) (hl : l.length ≤ 200) : LX l ((ansL l).map bareT) := fun o =>
  ⟨(ansL l).map (onT o), by have := lex_shift o (ans_ok h hl); rwa [Nat.zero_add] at this, by rw [List.map_map]; rfl⟩
theorem LX.nil : LX [] [] := fun o => ⟨[], .nil o, rfl⟩
theorem LX.blank {r : List UInt8} {bs : List Tok} (h : LX r bs) : LX (32 :: r) bs := fun o => by
  obtain ⟨ts, h1, h2⟩ := h (o + 1)
  exact ⟨ts, .blank h1, h2⟩
theorem LX.behind {r : List UInt8} {bs : List Tok} (h : LX r bs) : LX (r ++ [32]) bs := fun o => by
  obtain ⟨ts, h1, h2⟩ := h o
  exact ⟨ts, lex_back 1 h1, h2⟩
theorem LX.close {r z : List UInt8} {bs cs : List Tok} (h : LX r bs) (hz : LX (41 :: z) cs) : LX (r ++ 41 :: z) (bs ++ cs) := fun o => by
  obtain ⟨ts, h1, h2⟩ := h o
  obtain ⟨zs, g1, g2⟩ := hz (o + r.length)
  exact ⟨ts ++ zs, lex_close h1 z zs g1, by rw [List.map_append, h2, g2]⟩
theorem LX.mark {c : UInt8} {z : List UInt8} {cs : List Tok} (hc : c = 45 ∨ c = 40 ∨ c = 41 ∨ c = 44 ∨ c = 58) (hz : LX z cs) : LX (c :: z) (mkT [c] :: cs) := fun o => by
  obtain ⟨zs, g1, g2⟩ := hz (o + 1)
  exact ⟨{ mkT [c] with frm := o } :: zs, lex_cons (x := [c]) ⟨c, [], rfl, by rcases hc with rfl | rfl | rfl | rfl | rfl <;> decide⟩ (lex_single hc) g1, by rw [List.map_cons, g2]; rfl⟩
theorem LX.op {w z : List UInt8} {cs : List Tok} (hw : 1 ≤ lvl w) (hb : Beg z) (hz : LX z cs) : LX (w ++ z) (mkT w :: cs) := fun o => by
  obtain ⟨zs, g1, g2⟩ := hz (o + w.length)
  exact ⟨{ mkT w with frm := o } :: zs, lex_cons (op_beg hw) (lex_op hw hb) g1, by rw [List.map_cons, g2]; rfl⟩
theorem LX.ans {l : List UInt8} {bs : List Tok} (h : LX l bs) (hl : l.length ≤ 200) : ansE l = 0 ∧ (ansL l).map bareT = bs := by
  obtain ⟨ts, h1, h2⟩ := h 0
  obtain ⟨h3, h4⟩ := lex_ans h1 hl
  exact ⟨h4, by rw [h3]; exact h2⟩
theorem parse_inv {l : List UInt8} {a : Tr} (h : parseL l = .good a) : l.length ≤ 200 ∧ ansE l = 0 ∧ treeT (ansL l) l.length = some (.ok a (ansL l).length) ∧ deepT a ≤ 16 := by
  unfold parseL at h
  by_cases h0 : ansE l = 0
  · have hl : l.length ≤ 200 := by
      rcases Nat.lt_or_ge 200 l.length with g | g
      · have e3 : ansE l = 3 := if_pos g
        rw [e3] at h0; cases h0
      · exact g
    rw [if_neg (fun g => g h0)] at h
    obtain ⟨x, hx, hq⟩ := tree_some (ansL l) l.length
    rw [hx] at h
    cases x with
    | bad z => cases h
    | ok t q =>
      have hqn := hq t q rfl
      dsimp only at h
      by_cases h1 : q < (ansL l).length
      · rw [if_pos h1] at h; cases h
      · rw [if_neg h1] at h
        by_cases h2 : 16 < deepT t
        · rw [if_pos h2] at h; cases h
        · rw [if_neg h2] at h
          cases h
          have e : q = (ansL l).length := by omega
          subst e
          exact ⟨hl, h0, hx, by omega⟩
  · rw [if_pos h0] at h; cases h
theorem parse_of {l : List UInt8} {t : Tr} (h0 : ansE l = 0) (ht : treeT (ansL l) l.length = some (.ok t (ansL l).length)) : parseL l = if 16 < deepT t then .fail 0 6 else .good t := by
  unfold parseL
  rw [if_neg (fun g => g h0), ht]
  dsimp only
  rw [if_neg (Nat.lt_irrefl _)]
theorem parse_parsed {l : List UInt8} {a : Tr} (h : parseL l = .good a) : Parsed a := by
  obtain ⟨hl, h0, ht, hd⟩ := parse_inv h
  obtain ⟨s, ts, hp⟩ := tree_may (good_ans h0 hl) ht
  have hm : mayB a = true ∧ a.kind ≠ 6 := pr_may hp
  exact ⟨(tree_wid (ans_len l) ht).1, pr_fit hp, hm.1, hm.2, hd⟩
/-- a text's tokens, in a longer list -/
theorem holds_bare {L M : List Tok} {o : Nat} (h : Holds L o (M.map bareT)) : ∀ (i : Nat) (t : Tok), M[i]? = some t → ∃ f, L[o + i]? = some { t with frm := f } := fun i t hi => by
  obtain ⟨f, hf⟩ := h i (bareT t) (by rw [List.getElem?_map, hi]; rfl)
  exact ⟨f, hf⟩
/-- a text in brackets, among tokens -/
theorem brk_seg {L M : List Tok} {o E D : Nat} {a : Tr} {cs : List Tok} (h : Holds L o (mkT [40] :: (M.map bareT ++ mkT [41] :: cs))) (ht : treeT M D = some (.ok a M.length)) : Seg L E o (o + 1 + M.length + 1) a 4 := by
  have h1 := h.cons.2
  have hr := h1.right
  rw [List.length_map] at hr
  exact piece_brk h.mark hr.mark (holds_bare h1.left) ht
theorem seg_whole {L : List Tok} {E : Nat} {t : Tr} {m : Nat} (hm : 1 ≤ m) (h : Seg L E 0 L.length t m) : treeT L E = some (.ok t L.length) := by
  obtain ⟨k, hk⟩ := h.line 1 (Nat.le_refl _) hm (by omega) (by rw [level_end]; omega)
  exact tree_is hk
theorem deep_neg (a : Tr) : deepT (negT a) = deepT a + 1 := by
  unfold negT; rw [deepT, deepL, deepL]; simp
theorem deep_op (w : List UInt8) (a b : Tr) : deepT (opT w a b) = max (deepT a) (deepT b) + 1 := by
  unfold opT; rw [deepT, deepL, deepL, deepL]; simp
/-- .. with blanks about it -/
def brkL (s : List UInt8) : List UInt8 := 32 :: 40 :: 32 :: ((s ++ [32]) ++ 41 :: [32])
def negL (s : List UInt8) : List UInt8 := 45 :: 40 :: (s ++ 41 :: [])
def opL (w s t : List UInt8) : List UInt8 := 40 :: (s ++ 41 :: (w ++ 40 :: (t ++ 41 :: [])))
theorem parse_brk {s : List UInt8} {a : Tr} (h : parseL s = .good a) (hs : s.length ≤ 60) : parseL (brkL s) = .good a := by
  obtain ⟨hl, h0, ht, hd⟩ := parse_inv h
  have hx : LX (brkL s) (mkT [40] :: ((ansL s).map bareT ++ mkT [41] :: [])) :=
    .blank (.mark (.inr (.inl rfl)) (.blank (.close (.behind (.of h0 hl)) (.mark (.inr (.inr (.inl rfl))) (.blank .nil)))))
  obtain ⟨g0, g1⟩ := hx.ans (by unfold brkL; simp; omega)
  have hsg := brk_seg (E := (brkL s).length) (holds_of g1) ht
  have hn : (ansL (brkL s)).length = 0 + 1 + (ansL s).length + 1 := by
    have := congrArg List.length g1
    simp at this; omega
  rw [← hn] at hsg
  rw [parse_of g0 (seg_whole (by decide) hsg), if_neg (by omega)]
theorem parse_neg {s : List UInt8} {a : Tr} (h : parseL s = .good a) (hs : s.length ≤ 60) : parseL (negL s) = if 15 < deepT a then .fail 0 6 else .good (negT a) := by
  obtain ⟨hl, h0, ht, hd⟩ := parse_inv h
  have hx : LX (negL s) (mkT [45] :: mkT [40] :: ((ansL s).map bareT ++ mkT [41] :: [])) :=
    .mark (.inl rfl) (.mark (.inr (.inl rfl)) (.close (.of h0 hl) (.mark (.inr (.inr (.inl rfl))) .nil)))
  obtain ⟨g0, g1⟩ := hx.ans (by unfold negL; simp; omega)
  have hh := holds_of g1
  have hsg := brk_seg (E := (negL s).length) hh.cons.2 ht
  have hn : (ansL (negL s)).length = 0 + 1 + 1 + (ansL s).length + 1 := by
    have := congrArg List.length g1
    simp at this; omega
  rw [← hn] at hsg
  rw [parse_of g0 (seg_whole (by decide) (seg_neg hh.mark hsg)), deep_neg]
  by_cases g : 15 < deepT a
  · rw [if_pos g, if_pos (by omega)]
  · rw [if_neg g, if_neg (by omega)]
theorem text_mark {L : List Tok} {p : Nat} {s : List UInt8} (h : isMark L p s = true) : (L.map Tok.text).getD p [] = s := by
  obtain ⟨t, ht, _, e⟩ := mark_is h
  rw [List.getD_eq_getElem?_getD, List.getElem?_map, ht]
  exact e
theorem parse_op {s t w : List UInt8} {a b : Tr} (hw : 1 ≤ lvl w) (hwl : w.length ≤ 2) (h : parseL s = .good a) (hs : s.length ≤ 60) (h' : parseL t = .good b) (hs' : t.length ≤ 60) :
    parseL (opL w s t) = if 15 < deepT a ∨ 15 < deepT b then .fail 0 6 else .good (opT w a b) := by
  obtain ⟨hl, h0, ht, hd⟩ := parse_inv h
  obtain ⟨hl', h0', ht', hd'⟩ := parse_inv h'
  have hx : LX (opL w s t) (mkT [40] :: ((ansL s).map bareT ++ mkT [41] :: (mkT w :: mkT [40] :: ((ansL t).map bareT ++ mkT [41] :: [])))) :=
    .mark (.inr (.inl rfl)) (.close (.of h0 hl) (.mark (.inr (.inr (.inl rfl))) (.op hw ⟨40, _, rfl, by decide, by decide, by decide⟩ (.mark (.inr (.inl rfl)) (.close (.of h0' hl') (.mark (.inr (.inr (.inl rfl))) .nil))))))
  obtain ⟨g0, g1⟩ := hx.ans (by unfold opL; simp; omega)
  have hh := holds_of g1
  have hsg := brk_seg (E := (opL w s t).length) hh ht
  have hr := hh.cons.2.right
  rw [List.length_map] at hr
  have hr2 := hr.cons.2
  have hm := hr2.mark
  have hsg2 := brk_seg (E := (opL w s t).length) hr2.cons.2 ht'
  have hn : (ansL (opL w s t)).length = 0 + 1 + (ansL s).length + 1 + 1 + 1 + (ansL t).length + 1 := by
    have := congrArg List.length g1
    simp at this; omega
  rw [← hn] at hsg2
  have hlv := lvl_le w
  have hop := seg_op hw hlv (hsg.down (by omega)) (mark_level hm) (text_mark hm) (hsg2.down (by omega))
  rw [parse_of g0 (seg_whole hw hop), deep_op]
  by_cases g : 15 < deepT a ∨ 15 < deepT b
  · rw [if_pos g, if_pos (by omega)]
  · rw [if_neg g, if_neg (by omega)]
end Go.Proofs.YtahdlijkohmdfaaGreatDoor
/- Parse's contract, by what it comes to; what later worlds keep. -/
namespace Go.Proofs.YtahdlijkohmdfaaGreatDoor
open Go.RowKit

theorem parse_goodB {s : ByteArray} {t : Tr} (hs : s.size ≤ 9223372036854775807) (h : parseL s.data.toList = .good t) (w : World) (hE : EnvP w) :
    Calls Tryz.prog 6 #[.string s] w fun e w' => ∃ A ca, e = .returned (.tuple #[.agg #[.int .i64 t.kind, .int .i64 t.num, .int .i64 t.c1, .int .i64 t.r1, .int .i64 t.c2, .int .i64 t.r2, .string ⟨t.word.toArray⟩, .slice A t.kids.length ca], .int .i64 0, .int .i64 0]) ∧ KV w' (fun _ => True) t A ∧ Below w.heap.size w w' := by
  refine (sparse_any s hs w hE).mono fun e w' hp => ?_
  rw [h] at hp
  exact post_good hp
theorem parse_failB {s : ByteArray} {a c : Int} (hs : s.size ≤ 9223372036854775807) (h : parseL s.data.toList = .fail a c) (w : World) (hE : EnvP w) :
    Calls Tryz.prog 6 #[.string s] w fun e w' => e = .returned (.tuple #[.agg #[.int .i64 0, .int .i64 0, .int .i64 0, .int .i64 0, .int .i64 0, .int .i64 0, .string ⟨#[]⟩, .slice none 0 0], .int .i64 a, .int .i64 c]) ∧ Below w.heap.size w w' := by
  refine (sparse_any s hs w hE).mono fun e w' hp => ?_
  rw [h] at hp
  exact hp
theorem parse_anyB {s : ByteArray} (hs : s.size ≤ 9223372036854775807) (w : World) (hE : EnvP w) :
    Calls Tryz.prog 6 #[.string s] w fun e w' => ∃ n0 n1 n2 n3 n4 n5 z A l ca p c, e = .returned (.tuple #[.agg #[.int .i64 n0, .int .i64 n1, .int .i64 n2, .int .i64 n3, .int .i64 n4, .int .i64 n5, .string z, .slice A l ca], .int .i64 p, .int .i64 c]) ∧ Below w.heap.size w w' := by
  cases h : parseL s.data.toList with
  | good t => exact (parse_goodB hs h w hE).mono fun e w' ⟨A, ca, he, _, hb⟩ => ⟨_, _, _, _, _, _, _, _, _, _, _, _, he, hb⟩
  | fail a c => exact (parse_failB hs h w hE).mono fun e w' ⟨he, hb⟩ => ⟨_, _, _, _, _, _, _, _, _, _, _, _, he, hb⟩
theorem fail_ne {l : List UInt8} {a c : Int} (h : parseL l = .fail a c) : (c != 0) = true := by
  rw [bne_iff_ne]
  rintro rfl
  unfold parseL at h
  by_cases h0 : ansE l = 0
  · rw [if_neg (fun g => g h0)] at h
    obtain ⟨x, hx, _⟩ := tree_some (ansL l) l.length
    rw [hx] at h
    cases x with
    | bad z => dsimp only at h; injection h with _ h; cases h
    | ok t q =>
      dsimp only at h
      by_cases h1 : q < (ansL l).length
      · rw [if_pos h1] at h; injection h with _ h; cases h
      · rw [if_neg h1] at h
        by_cases h2 : 16 < deepT t
        · rw [if_pos h2] at h; injection h with _ h; cases h
        · rw [if_neg h2] at h; cases h
  · rw [if_pos h0] at h; injection h with _ h; exact h0 h
def Yes (w : World) (e : Ending) (w' : World) : Prop := e = .returned (.bool true) ∧ Below w.heap.size w w'
def vT (n0 n1 n2 n3 n4 n5 : Int) (z : ByteArray) (A : Option Addr) (l ca : Nat) : Obj := .cells #[.int .i64 n0, .int .i64 n1, .int .i64 n2, .int .i64 n3, .int .i64 n4, .int .i64 n5, .string z, .slice A l ca] 30
def valT (t : Tr) (A : Option Addr) (ca : Nat) : Obj := vT t.kind t.num t.c1 t.r1 t.c2 t.r2 ⟨t.word.toArray⟩ A t.kids.length ca
/-- what a later world keeps -/
def Stays (Q : World → Prop) : Prop := ∀ w w', Q w → Below w.heap.size w w' → Q w'
theorem Stays.and {P Q : World → Prop} (hp : Stays P) (hq : Stays Q) : Stays (fun w => P w ∧ Q w) := fun _ _ h hb => ⟨hp _ _ h.1 hb, hq _ _ h.2 hb⟩
theorem stays_here (g : Nat) (t : Tr) (A : Option Addr) (ca : Nat) : Stays (fun w => Here w g t A ca) := fun _ _ h hb => h.below hb
theorem stays_kv (t : Tr) (A : Option Addr) : Stays (fun w => KV w (fun _ => True) t A) := fun _ _ h hb => h.kept (Kept.of_below hb)
theorem stays_at8 (g o : Nat) (t : Tr) (A : Option Addr) (ca : Nat) : Stays (fun w => At8 w g o t A ca) := fun _ _ h hb => h.kept (P := fun _ => True) (Kept.of_below hb) trivial
theorem stays_cell (p : Addr) (v : Value) : Stays (fun w => w.cell? p = some v) := fun _ _ h hb => (hb.cell (Lib.lt_of_cell h)).trans h
theorem Stays.al {Q : World → Prop} (h : Stays Q) {w : World} (hq : Q w) (ob : Obj) : Q (w.alloc ob) := h _ _ hq ((Below.refl _ _).alloc (Nat.le_refl _) ob)
theorem same_self (t : Tr) (ht : Wid t) (w : World) (A B : Option Addr) (ca cb : Nat) (hA : KV w (fun _ => True) t A) (hB : KV w (fun _ => True) t B) :
    Calls Tryz.prog 16 #[.agg #[.int .i64 t.kind, .int .i64 t.num, .int .i64 t.c1, .int .i64 t.r1, .int .i64 t.c2, .int .i64 t.r2, .string ⟨t.word.toArray⟩, .slice A t.kids.length ca], .agg #[.int .i64 t.kind, .int .i64 t.num, .int .i64 t.c1, .int .i64 t.r1, .int .i64 t.c2, .int .i64 t.r2, .string ⟨t.word.toArray⟩, .slice B t.kids.length cb]] w fun e w' => e = .returned (.bool true) ∧ Below w.heap.size w w' :=
  (psame_any t t ht ht w _ _ A B ca cb hA hB).mono fun e w' ⟨⟨b, he, hb⟩, h⟩ => ⟨by rw [he, hb.2 rfl], h⟩
theorem deep_any (t : Tr) (h : deepT t ≤ 16) (ht : Wid t) (w : World) (A : Option Addr) (ca : Nat) (hA : KV w (fun _ => True) t A) :
    Calls Tryz.prog 14 #[.agg #[.int .i64 t.kind, .int .i64 t.num, .int .i64 t.c1, .int .i64 t.r1, .int .i64 t.c2, .int .i64 t.r2, .string ⟨t.word.toArray⟩, .slice A t.kids.length ca]] w fun e w' => e = .returned (.int .i64 (deepT t : Int)) ∧ Below w.heap.size w w' :=
  pdeep_any 16 t h (by decide) ht w _ A ca hA
end Go.Proofs.YtahdlijkohmdfaaGreatDoor
/- What the rows' listed variables give a walk, and one start that holds them: layer 5. -/
namespace Go.Proofs.YtahdlijkohmdfaaGreatDoor
open Go.ChangeShapes Go.WideShapes Go.ChangeAt Go.RowKit

theorem own : ownKnob Tryz.prog.godebug = none := by kernel_rfl
theorem ySyn : (Tryz.prog.globals[2]?).map (·.type) = some 75 := by kernel_rfl
theorem yRng : (Tryz.prog.globals[3]?).map (·.type) = some 75 := by kernel_rfl
theorem yTab : (Tryz.prog.globals[4]?).map (·.type) = some 147 := by kernel_rfl
theorem gStr : Tryz.prog.globalNamed "gridiron/syntax.strengths" = some 0 := by kernel_rfl
theorem yStr : (Tryz.prog.globals[0]?).map (·.type) = some 101 := by kernel_rfl
theorem cellsTab : Tryz.prog.cellsOf 147 = 20 := by kernel_rfl
theorem cellsU64 : Tryz.prog.cellsOf 105 = 1 := by kernel_rfl
theorem cellsErrS : Tryz.prog.cellsOf 155 = 1 := by kernel_rfl
theorem cellsStr : Tryz.prog.cellsOf 9 = 1 := by kernel_rfl
theorem cellsRow : Tryz.prog.cellsOf 100 = 1 := by kernel_rfl
theorem cellsThree : Tryz.prog.cellsOf 101 = 3 := by kernel_rfl
theorem starE : "*" ++ "errors.errorString" = "*errors.errorString" := by decide
theorem rowE (u : TypeId) (h : Tryz.prog.typeName? 3 u = some "*errors.errorString") : u = 153 :=
  typeName_ptr_named (nm := "errors.errorString") (by rw [starE]; kernel_rfl) (by kernel_rfl) (by decide) u (by rw [starE]; exact h)

theorem ba_of_list {s : ByteArray} {l : List UInt8} (h : s.data.toList = l) : s = ⟨l.toArray⟩ := by
  obtain ⟨d⟩ := s
  simp only at h
  rw [← h]
/-- a row of strings, read -/
theorem strs_of_trod {w : World} {fuel : Nat} {c : Value} {y : DataW Unit × List MemPlace} {l : List ByteArray} (hl : 0 < l.length)
    (h : DataW.trod (fun _ => ()) Tryz.prog w 0 (fun _ => true) false fuel 100 [c] = some y) (hy : y.1 = .slice (l.map fun s => .lit (.string s.data.toList)) []) :
    ∃ g o cap, c = .slice (some ⟨g, o, none⟩) l.length cap ∧ SAt w g o l := by
  rcases DataW.trod_slice Tryz.underlying100 h with ⟨_, hx⟩ | ⟨a, len, cap, el, rs, m, rfl, hcs, hx, _, hlc, _, hel, helem, hsp, _⟩
  · rw [hx] at hy; cases hy
  rw [hx] at hy
  simp only [DataW.slice.injEq] at hy
  obtain ⟨eE, eR⟩ := hy
  have hlen : len = l.length := by
    have := congrArg List.length eE
    simp at this
    omega
  have hcell : ∀ i (s : ByteArray), l[i]? = some s → w.cell? (a.add i) = some (.string s) := by
    intro i s hi
    have hil : i < l.length := (List.getElem?_eq_some_iff.1 hi).1
    have h1 := helem i (by omega)
    rw [cellsStr] at h1
    obtain ⟨b, hb⟩ : ∃ b, el[i]? = some b := ⟨el[i]'(by omega), List.getElem?_eq_getElem (by omega)⟩
    rw [hb] at h1
    obtain ⟨ce, hce, hte⟩ := Option.bind_eq_some_iff.1 h1
    obtain ⟨z, hz, hbz, _⟩ := DataW.trod_string Tryz.underlying9 hte
    have hb1 : b.1 = .lit (.string s.data.toList) := by
      have h5 : (el.map (·.1))[i]? = some b.1 := by rw [List.getElem?_map, hb]; rfl
      rw [eE, List.getElem?_map, hi] at h5
      exact (Option.some.inj h5).symm
    rw [hbz] at hb1
    simp only [DataW.lit.injEq, Lit.string.injEq] at hb1
    have hzs : z = s := by
      have := ba_of_list hb1
      rw [this]
    obtain ⟨_, _, hcc⟩ := World.cells?_some hce
    have := hcc 0 (by omega)
    rw [hz] at this
    simp only [Nat.mul_one] at this
    have e1 : (a.add i).add 0 = a.add i := by simp [Addr.add]
    rw [e1] at this
    rw [this, hzs]
    rfl
  obtain ⟨R, o, sR⟩ := a
  obtain ⟨s0, hs0⟩ : ∃ s, l[0]? = some s := ⟨l[0]'hl, List.getElem?_eq_getElem hl⟩
  have h00 := hcell 0 s0 hs0
  have hspot : sR = none := by simpa [Addr.add] using World.cell?_spot h00
  subst hspot
  refine ⟨R, o, cap, ?_, fun j s hj => ?_⟩
  · simp only [List.cons.injEq, and_true] at hcs
    rw [hcs, hlen]
  · have := hcell j s hj
    rwa [add_plain] at this
theorem strs_of {w : World} {r : List (String × DataW Unit)} (h : laidMet Tryz.prog (("gridiron/syntax.strengths", Rows.laid_gridiron_syntax_strengths) :: r) w) : Strs w.heap.size w.heap.size w := by
  obtain ⟨ps, ⟨g, t, cs, fuel, p, q, hg, ht, hvar, hd, _, _⟩, _⟩ := h
  obtain rfl := Option.some.inj (gStr.symm.trans hg)
  obtain rfl := Option.some.inj (yStr.symm.trans ht)
  obtain ⟨l⟩ := cs
  cases fuel with
  | zero => simp [DataW.trod] at hd
  | succ fuel =>
    simp only [DataW.trod, Tryz.underlying101, cellsThree, cellsRow] at hd
    split at hd
    · rename_i hl
      obtain ⟨c0, c1, c2, rfl⟩ : ∃ c0 c1 c2, l = [c0, c1, c2] := by
        match l, hl with
        | [a, b, c], _ => exact ⟨a, b, c, rfl⟩
      have e : List.range 3 = [0, 1, 2] := rfl
      rw [e] at hd
      simp only [Option.map_eq_some_iff, List.mapM_cons, List.mapM_nil, Option.bind_eq_bind, Option.bind_eq_some_iff, Option.pure_def, Option.some.injEq] at hd
      obtain ⟨xs, ⟨y0, h0, _, ⟨y1, h1, _, ⟨y2, h2, _, rfl, rfl⟩, rfl⟩, rfl⟩, hx⟩ := hd
      have hx1 := congrArg Prod.fst hx
      simp only [Rows.laid_gridiron_syntax_strengths, List.map_cons, List.map_nil, DataW.agg.injEq, List.cons.injEq, and_true] at hx1
      obtain ⟨e0, e1, e2⟩ := hx1
      obtain ⟨g0, o0, k0, rfl, a0⟩ := strs_of_trod (l := strL 0) (by decide) h0 e0
      obtain ⟨g1, o1, k1, rfl, a1⟩ := strs_of_trod (l := strL 1) (by decide) h1 e1
      obtain ⟨g2, o2, k2, rfl, a2⟩ := strs_of_trod (l := strL 2) (by decide) h2 e2
      have v0 := World.var?_cell hg hvar 0
      have v1 := World.var?_cell hg hvar 1
      have v2 := World.var?_cell hg hvar 2
      have hG : 0 < w.heap.size := Lib.lt_of_cell v0
      have l0 : g0 < w.heap.size := Lib.lt_of_cell (a0 0 _ rfl)
      have l1 : g1 < w.heap.size := Lib.lt_of_cell (a1 0 _ rfl)
      have l2 : g2 < w.heap.size := Lib.lt_of_cell (a2 0 _ rfl)
      refine ⟨⟨Nat.ne_of_gt hG, hG⟩, fun i hi => ?_⟩
      match i, hi with
      | 0, _ => exact ⟨g0, o0, k0, ⟨Nat.ne_of_lt l0, l0⟩, v0, a0⟩
      | 1, _ => exact ⟨g1, o1, k1, ⟨Nat.ne_of_lt l1, l1⟩, v1, a1⟩
      | 2, _ => exact ⟨g2, o2, k2, ⟨Nat.ne_of_lt l2, l2⟩, v2, a2⟩
    · cases hd
theorem env_of {w : World} (h : laidMet Tryz.prog Rows.syntaxTellsRow.laid w) : EnvP w ∧ EnvI w := by
  have h3 := h.tail.tail
  have h4 := h3.tail
  have h5 := h4.tail
  refine ⟨⟨⟨?_, ?_⟩, strs_of h5.tail⟩, ⟨Lib.tabIs_of_head (rest := _) gTab yTab Tryz.underlying147 Tryz.underlying105 cellsU64 cellsTab h3⟩⟩
  · obtain ⟨a, s, hv, _⟩ := laid_sentinel h4 gRng yRng Tryz.underlying75 rowE Tryz.underlying153 Tryz.underlying155 rfl rfl Tryz.underlying9 cellsErrS cellsStr
    exact ⟨_, _, hv⟩
  · obtain ⟨a, s, hv, _⟩ := laid_sentinel h5 gSyn ySyn Tryz.underlying75 rowE Tryz.underlying153 Tryz.underlying155 rfl rfl Tryz.underlying9 cellsErrS cellsStr
    exact ⟨_, _, hv⟩

/-- the integers of a listed table -/
def valsOf : DataW Unit → List Value
  | .agg ds => ds.map fun
    | .lit (.int k n) => .int k n
    | _ => .nilIface
  | _ => []
abbrev synS : ByteArray := { data := #[105, 110, 118, 97, 108, 105, 100, 32, 115, 121, 110, 116, 97, 120] }
abbrev rngS : ByteArray := { data := #[118, 97, 108, 117, 101, 32, 111, 117, 116, 32, 111, 102, 32, 114, 97, 110, 103, 101] }
/-- So many blocks has the settled world. -/
noncomputable def low : Nat := (World.holding Tryz.prog default ⟨#[], #[], []⟩).heap.size
/-- A start that fits: the settled world, five blocks more, the six variables as their initialisers lay them. -/
noncomputable def laidWorld (os : Os) : World :=
  let w0 := World.holding Tryz.prog os ⟨#[.cells #[.string synS] 155, .cells #[.string rngS] 155, .cells #[.string ⟨#[60]⟩, .string ⟨#[60, 61]⟩, .string ⟨#[61]⟩, .string ⟨#[60, 62]⟩, .string ⟨#[62, 61]⟩, .string ⟨#[62]⟩] 9, .cells #[.string ⟨#[43]⟩, .string ⟨#[45]⟩] 9, .cells #[.string ⟨#[42]⟩, .string ⟨#[47]⟩] 9], #[], []⟩
  let put (h : Array Obj) (g : Nat) (cs : Array Value) : Array Obj := h.modify g fun
    | .cells _ t frozen => .cells cs t frozen
    | o => o
  let h0 := put w0.heap 2 #[.iface 153 (.pointer (some ⟨low, 0, none⟩))]
  let h1 := put h0 3 #[.iface 153 (.pointer (some ⟨low + 1, 0, none⟩))]
  let h2 := put h1 4 (valsOf Rows.laid_internal_strconv_uint64pow10).toArray
  let h3 := put h2 5 (valsOf Rows.laid_math_bits_deBruijn32tab).toArray
  let h4 := put h3 6 (valsOf Rows.laid_math_bits_deBruijn64tab).toArray
  let h5 := put h4 0 #[.slice (some ⟨low + 2, 0, none⟩) 6 6, .slice (some ⟨low + 3, 0, none⟩) 2 2, .slice (some ⟨low + 4, 0, none⟩) 2 2]
  { w0 with heap := h5 }
theorem laid_met (os : Os) (args : Array Value) : laidMet Tryz.prog Rows.syntaxTellsRow.laid ((laidWorld os).forCall (fun _ _ => 0) ⟨#[], args, []⟩).memory :=
  laidMet_of_run' 8 (by kernel_rfl) (by kernel_rfl)
end Go.Proofs.YtahdlijkohmdfaaGreatDoor
/- The statement's own Size: how many parts a tree has, of those that are gone through. -/
namespace Go.Proofs.YtahdlijkohmdfaaGreatDoor
open Go.RowKit

mutual
def szT : Tr → Int → Int
  | .mk _ _ _ _ _ _ _ ks, m => szL ks 1 m
def szL : List Tr → Int → Int → Int
  | [], n, _ => n
  | u :: r, n, m => if n ≤ m then szL r (n + szT u (m - n)) m else n
end
mutual
theorem szT_bound : ∀ (t : Tr) (m : Int), 0 ≤ m → 1 ≤ szT t m ∧ szT t m ≤ m + 1
  | .mk _ _ _ _ _ _ _ ks, m, h => by
    rw [szT]
    exact szL_bound ks 1 m (by omega) (by omega)
theorem szL_bound : ∀ (ks : List Tr) (n m : Int), 1 ≤ n → n ≤ m + 1 → 1 ≤ szL ks n m ∧ szL ks n m ≤ m + 1
  | [], n, m, h1, h2 => by rw [szL]; exact ⟨h1, h2⟩
  | u :: r, n, m, h1, h2 => by
    rw [szL]
    by_cases h : n ≤ m
    · rw [if_pos h]
      have := szT_bound u (m - n) (by omega)
      exact szL_bound r _ m (by omega) (by omega)
    · rw [if_neg h]; exact ⟨h1, h2⟩
end
theorem szT_eq (t : Tr) (m : Int) : szT t m = szL t.kids 1 m := by cases t; rw [szT]; rfl
def SizeC (t : Tr) : Prop := ∀ (m : Int), 0 ≤ m → m ≤ 400 → ∀ (w : World) (P : Nat → Prop) (A : Option Addr) (cap : Nat), KV w P t A →
  Calls Tryz.prog 25 #[.agg #[.int .i64 t.kind, .int .i64 t.num, .int .i64 t.c1, .int .i64 t.r1, .int .i64 t.c2, .int .i64 t.r2, .string ⟨t.word.toArray⟩, .slice A t.kids.length cap], .int .i64 m] w fun e w' => e = .returned (.int .i64 (szT t m)) ∧ Below w.heap.size w w'
set_option maxHeartbeats 1000000 in
set_option maxRecDepth 10000 in
theorem size_level (t : Tr) (hlen : t.kids.length ≤ maxLen) (ih : ∀ u ∈ t.kids, SizeC u) : SizeC t := by
  intro m m0 m4 w P A cap hk
  have HK := Lib.hid hk
  have HI := Lib.hid ih
  have HE := Lib.hid (szT_eq t m)
  unfold maxLen at hlen
  generalize szT t m = Z at *
  clear hk ih
  go_enter Tryz.func25, Tryz.ntmps25
  go_wp2_with fail
  go_loopw [5, 6] (fun vn vi wr => ∃ (i : Nat) (n : Int), i ≤ t.kids.length ∧ vn = .int .i64 n ∧ vi = .int .i64 (i : Int) ∧ (1 ≤ n ∧ n ≤ m + 1) ∧ Hid (Z = szL (t.kids.drop i) n m) ∧ Below w.heap.size w wr ∧ w.heap.size < wr.heap.size ∧ wr.cell? ⟨w.heap.size, 7, none⟩ = some (.slice A t.kids.length cap)) (fun _ vi _ => t.kids.length - (intOf vi).toNat)
  case atStart => exact ⟨0, 1, Nat.zero_le _, rfl, rfl, ⟨by omega, by omega⟩, HE, (Below.refl _ _).alloc (Nat.le_refl _) _, by simp, by simp [go_sem]⟩
  case round =>
    obtain ⟨i, n, hi, rfl, rfl, ⟨n1, n2⟩, HZ, hbel, hsz, c7⟩ := hrel
    by_cases hlt : i < t.kids.length
    · by_cases hnm : n ≤ m
      · have hu : t.kids[i]? = some (t.kids[i]'hlt) := List.getElem?_eq_getElem hlt
        obtain ⟨g, o, rfl⟩ := HK.out.addr hu
        obtain ⟨hg, A', cap', h8, hkv⟩ := HK.out.kidAt hbel hu
        have hb := szT_bound (t.kids[i]'hlt) (m - n) (by omega)
        have HC := Lib.hid (HI.out _ (List.getElem_mem hlt) (m - n) (by omega) (by omega) wr _ A' cap' hkv)
        have HN : Hid (Z = szL (t.kids.drop (i + 1)) (n + szT (t.kids[i]'hlt) (m - n)) m) := Lib.hid (by
          have h := HZ.out
          rw [List.drop_eq_getElem_cons hlt, szL, if_pos hnm] at h
          exact h)
        have dn : decide (n ≤ m) = true := decide_eq_true hnm
        generalize szT (t.kids[i]'hlt) (m - n) = q at *
        generalize t.kids[i]'hlt = u at *
        obtain ⟨q0, q1, q2, q3, q4, q5, q6, q7⟩ := h8
        have hgw : g < wr.heap.size := by have := hbel.size; omega
        clear hu hkv HZ
        go_wp2_with fail
        refine Calls.mono HC.out ?_; rintro e w2 ⟨rfl, b2⟩
        have h2 := hbel.trans (b2.mono hbel.size)
        have k2 := keep_cell b2 c7
        have z2 : w.heap.size < w2.heap.size := Nat.lt_of_lt_of_le hsz b2.size
        clear b2 q0 q1 q2 q3 q4 q5 q6 q7
        go_wp2_with fail
        go_roundw
        case rel => exact ⟨i + 1, n + q, by omega, by go_num, by go_num, ⟨by omega, by omega⟩, HN, h2, z2, k2⟩
        case measure => simp [intOf]; omega
      · have HN : Hid (Z = n) := Lib.hid (by
          have h := HZ.out
          rw [List.drop_eq_getElem_cons hlt, szL, if_neg hnm] at h
          exact h)
        have dn : decide (n ≤ m) = false := decide_eq_false hnm
        clear HZ
        go_wp2_with fail
        go_ret
        exact ⟨by rw [HN.out]; rfl, hbel⟩
    · have HN : Hid (Z = n) := Lib.hid (by
        have h := HZ.out
        rw [List.drop_eq_nil_of_le (by omega), szL] at h
        exact h)
      clear HZ
      go_wp2_with fail
      go_ret
      exact ⟨by rw [HN.out]; rfl, hbel⟩
theorem lsize_any : ∀ {t : Tr}, Wid t → SizeC t := by
  intro t hW
  induction hW with
  | @mk k n c r d s w ks hl hk ih => exact size_level _ hl ih
end Go.Proofs.YtahdlijkohmdfaaGreatDoor
/- The statements' own test whether a tree is such as is gone through: not too deep. -/
namespace Go.Proofs.YtahdlijkohmdfaaGreatDoor
open Go.RowKit

/-- not deeper than so much, no list of kids too long -/
def witB : Nat → Tr → Bool
  | 0, _ => false
  | m + 1, t => decide (t.kids.length ≤ 400) && t.kids.all (witB m)
theorem wit_deep : ∀ {m : Nat} {t : Tr}, witB m t = true → deepT t ≤ m
  | 0, t, h => by cases h
  | m + 1, t, h => by
    rw [witB, Bool.and_eq_true, List.all_eq_true] at h
    rw [deep_eq]
    have key : ∀ (ks : List Tr), (∀ x ∈ ks, witB m x = true) → deepL ks ≤ m := by
      intro ks
      induction ks with
      | nil => intro _; rw [deepL]; exact Nat.zero_le _
      | cons a r ih =>
        intro hk
        rw [deepL]
        exact Nat.max_le.2 ⟨wit_deep (hk a (by simp)), ih fun x hx => hk x (by simp [hx])⟩
    have := key t.kids h.2
    omega
theorem all_take' {f : Tr → Bool} {ks : List Tr} {i : Nat} {u : Tr} (h : ks[i]? = some u) (ha : (ks.take i).all f = true) (hu : f u = true) : (ks.take (i + 1)).all f = true := by
  rw [List.take_add_one, h, List.all_append, ha]
  simp [hu]
theorem all_bad' {f : Tr → Bool} {ks : List Tr} {i : Nat} {u : Tr} (h : ks[i]? = some u) (hu : f u = false) : ks.all f = false := by
  rw [List.all_eq_false]
  exact ⟨u, List.mem_of_getElem? h, by rw [hu]; decide⟩
set_option maxHeartbeats 2000000 in
set_option maxRecDepth 10000 in
theorem lwithin_any : ∀ (m : Nat) (t : Tr), m ≤ 1000 → Wid t → ∀ (q : Int), q = (m : Int) → ∀ (w : World) (P : Nat → Prop) (A : Option Addr) (cap : Nat), KV w P t A →
    Calls Tryz.prog 26 #[tv t A cap, .int .i64 q] w fun e w' => e = .returned (.bool (witB m t)) ∧ Below w.heap.size w w' := by
  intro m
  induction m with
  | zero =>
    intro t _ _ q hq w P A cap _
    subst hq
    unfold tv
    go_enter Tryz.func26, Tryz.ntmps26
    go_wp2_with fail
    go_ret
    exact ⟨rfl, (Below.refl _ _).alloc (Nat.le_refl _) _⟩
  | succ m ih =>
    intro t hm hw q hq w P A cap hk
    unfold tv
    have hlen := hw.len
    unfold maxLen at hlen
    have HW := Lib.hid hw
    have HK := Lib.hid hk
    have HI := Lib.hid ih
    have HB : Hid (witB (m + 1) t = (decide (t.kids.length ≤ 400) && t.kids.all (witB m))) := Lib.hid rfl
    have dm : (q == 0) = false := by rw [beq_eq_false_iff_ne]; omega
    have hq1 : 1 ≤ q ∧ q ≤ 1000 := by omega
    have HQ := Lib.hid (show q - 1 = (m : Int) from by omega)
    have hm' : m ≤ 1000 := by omega
    clear hk ih hw hq hm
    by_cases h4 : 400 < t.kids.length
    · have d4 : decide ((400 : Int) < (t.kids.length : Int)) = true := decide_eq_true (by omega)
      have HF := Lib.hid (show witB (m + 1) t = false from by rw [HB.out, decide_eq_false (by omega)]; rfl)
      clear h4 HB
      go_enter Tryz.func26, Tryz.ntmps26
      go_wp2_with fail
      go_ret
      exact ⟨by rw [HF.out]; rfl, (Below.refl _ _).alloc (Nat.le_refl _) _⟩
    · have d4 : decide ((400 : Int) < (t.kids.length : Int)) = false := decide_eq_false (by omega)
      have HB2 := Lib.hid (show witB (m + 1) t = t.kids.all (witB m) from by rw [HB.out, decide_eq_true (by omega)]; rfl)
      clear h4 HB
      go_enter Tryz.func26, Tryz.ntmps26
      go_wp2_with fail
      go_loopw [5] (fun vi wr => ∃ i : Nat, i ≤ t.kids.length ∧ vi = .int .i64 (i : Int) ∧ Hid ((t.kids.take i).all (witB m) = true) ∧ Below w.heap.size w wr ∧ w.heap.size < wr.heap.size ∧ wr.cell? ⟨w.heap.size, 7, none⟩ = some (.slice A t.kids.length cap)) (fun vi _ => t.kids.length - (intOf vi).toNat)
      case atStart => exact ⟨0, Nat.zero_le _, rfl, Lib.hid rfl, (Below.refl _ _).alloc (Nat.le_refl _) _, by simp, by simp [go_sem]⟩
      case round =>
        obtain ⟨i, hi, rfl, HTK, hbel, hsz, c7⟩ := hrel
        by_cases hlt : i < t.kids.length
        · have hu : t.kids[i]? = some (t.kids[i]'hlt) := List.getElem?_eq_getElem hlt
          obtain ⟨g, o, rfl⟩ := HK.out.addr hu
          obtain ⟨hg, A', cap', h8, hkv⟩ := HK.out.kidAt hbel hu
          have HTE := Lib.hid fun e => all_take' hu HTK.out e
          have HTB := Lib.hid fun e => all_bad' (f := witB m) hu e
          have HC := Lib.hid (HI.out _ hm' (HW.out.kid hu) (q - 1) HQ.out wr _ A' cap' hkv)
          generalize t.kids[i]'hlt = x at *
          unfold At8 at h8
          unfold tv at HC
          obtain ⟨q0, q1, q2, q3, q4, q5, q6, q7⟩ := h8
          clear hkv hu
          go_wp2_with fail
          refine HC.out.mono ?_; rintro e w1 ⟨rfl, b1⟩
          have e7 := keep_cell b1 c7
          have s7 : w.heap.size < w1.heap.size := Nat.lt_of_lt_of_le hsz b1.size
          have hb1 := hbel.trans (b1.mono hbel.size)
          clear b1 c7 q0 q1 q2 q3 q4 q5 q6 q7
          generalize hM : witB m x = M at *
          cases M with
          | true =>
            have HG := Lib.hid (HTE.out rfl)
            clear HTE HTB hM
            go_wp2_with fail
            go_roundw
            case rel => exact ⟨i + 1, by omega, by go_num, HG, hb1, s7, e7⟩
            case measure => simp [intOf]; omega
          | false =>
            have HF := Lib.hid (HTB.out rfl)
            clear HTE HTB hM
            go_wp2_with fail
            go_ret
            exact ⟨by rw [HB2.out, HF.out]; rfl, hb1⟩
        · have hii : i = t.kids.length := by omega
          subst hii
          have hz : t.kids.all (witB m) = true := by have := HTK.out; rwa [List.take_length] at this
          have HZ := Lib.hid hz
          clear hz
          go_wp2_with fail
          go_ret
          exact ⟨by rw [HB2.out, HZ.out]; rfl, hbel⟩
end Go.Proofs.YtahdlijkohmdfaaGreatDoor
