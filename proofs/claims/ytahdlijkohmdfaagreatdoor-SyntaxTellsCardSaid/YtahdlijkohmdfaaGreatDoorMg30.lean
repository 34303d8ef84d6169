/- Texts joined: RtB, RtC, RtD, TrS, TrT. -/
import Derived.Test.YtahdlijkohmdfaaGreatDoorMg29
import Derived.Deep.RegionHeld3
import Derived.Laws.Concat
import Derived.Test.YtahdlijkohmdfaaGreatDoorMg09
import Derived.Deep.RegionWith
import Derived.Deep.QuietTactic
import Derived.BigQuiet
set_option linter.all false
set_option linter.unusedVariables false
set_option linter.unusedSimpArgs false
/- The document's own text of a tree: by kinds. -/
namespace Go.Proofs.YtahdlijkohmdfaaGreatDoor
open Go.RowKit

theorem cat_bytes (l m : List UInt8) : ((⟨l.toArray⟩ : ByteArray) ++ ⟨m.toArray⟩) = ⟨(l ++ m).toArray⟩ := ByteArray.mk_append_mk l m
theorem size_bytes (l : List UInt8) : (⟨l.toArray⟩ : ByteArray).size = l.length := by simp [ByteArray.size]
set_option maxHeartbeats 1000000 in
set_option maxRecDepth 10000 in
theorem rtext_num (t : Tr) (hlen : t.kids.length ≤ maxLen) (y : (t.kind == 0) = true) (hn : B64 t.num) (w : World) (A : Option Addr) (ca : Nat) :
    Calls Tryz.prog 28 #[.agg #[.int .i64 t.kind, .int .i64 t.num, .int .i64 t.c1, .int .i64 t.r1, .int .i64 t.c2, .int .i64 t.r2, .string ⟨t.word.toArray⟩, .slice A t.kids.length ca]] w fun e w' => e = .returned (.string ⟨(Lib.itoa t.num).toArray⟩) ∧ Below w.heap.size w w' := by
  have H := Lib.hid (fun w => rtext_any t.num hn w)
  unfold maxLen at hlen
  clear hn
  go_enter Tryz.func28, Tryz.ntmps28
  go_wp2_with fail
  refine Calls.mono (H.out _) ?_; rintro e w1 ⟨rfl, b1⟩
  have h1 : Below w.heap.size w w1 := ((Below.refl _ _).alloc (Nat.le_refl _) _).trans (b1.mono (by simp))
  clear b1
  go_wp2_with fail
  go_ret
  exact ⟨rfl, h1⟩
set_option maxHeartbeats 1000000 in
set_option maxRecDepth 10000 in
theorem rtext_read (t : Tr) (hlen : t.kids.length ≤ maxLen) (n0 : (t.kind == 0) = false) (y : (t.kind == 1) = true) (w : World) (A : Option Addr) (ca : Nat) :
    Calls Tryz.prog 28 #[.agg #[.int .i64 t.kind, .int .i64 t.num, .int .i64 t.c1, .int .i64 t.r1, .int .i64 t.c2, .int .i64 t.r2, .string ⟨t.word.toArray⟩, .slice A t.kids.length ca]] w fun e w' => e = .returned (.string ⟨(placeText t.c1 t.r1).toArray⟩) ∧ Below w.heap.size w w' := by
  have H := Lib.hid (fun w => rtext2_any t.c1 t.r1 w)
  unfold maxLen at hlen
  go_enter Tryz.func28, Tryz.ntmps28
  go_wp2_with fail
  refine Calls.mono (H.out _) ?_; rintro e w1 ⟨rfl, b1⟩
  have h1 : Below w.heap.size w w1 := ((Below.refl _ _).alloc (Nat.le_refl _) _).trans (b1.mono (by simp))
  clear b1
  go_wp2_with fail
  go_ret
  exact ⟨rfl, h1⟩
set_option maxHeartbeats 1000000 in
set_option maxRecDepth 10000 in
theorem rtext_span (t : Tr) (hlen : t.kids.length ≤ maxLen) (n0 : (t.kind == 0) = false) (n1 : (t.kind == 1) = false) (y : (t.kind == 6) = true) (w : World) (A : Option Addr) (ca : Nat) :
    Calls Tryz.prog 28 #[.agg #[.int .i64 t.kind, .int .i64 t.num, .int .i64 t.c1, .int .i64 t.r1, .int .i64 t.c2, .int .i64 t.r2, .string ⟨t.word.toArray⟩, .slice A t.kids.length ca]] w fun e w' => e = .returned (.string (⟨(placeText t.c1 t.r1).toArray⟩ ++ (⟨#[58]⟩ : ByteArray) ++ ⟨(placeText t.c2 t.r2).toArray⟩)) ∧ Below w.heap.size w w' := by
  have H := Lib.hid (fun w => rtext2_any t.c1 t.r1 w)
  have G := Lib.hid (fun w => rtext2_any t.c2 t.r2 w)
  have l1 : (⟨(placeText t.c1 t.r1).toArray⟩ : ByteArray).size ≤ 100 := by rw [size_bytes]; exact place_len _ _
  have l2 : (⟨(placeText t.c2 t.r2).toArray⟩ : ByteArray).size ≤ 100 := by rw [size_bytes]; exact place_len _ _
  generalize (⟨(placeText t.c1 t.r1).toArray⟩ : ByteArray) = S1 at *
  generalize (⟨(placeText t.c2 t.r2).toArray⟩ : ByteArray) = S2 at *
  unfold maxLen at hlen
  have hcA : ∀ w, (Op.stringOp .add S1 ⟨#[58]⟩).run Tryz.prog w = .ok (.string (S1 ++ (⟨#[58]⟩ : ByteArray))) w := fun w => run_string_add_sum w S1 ⟨#[58]⟩ (by have : (⟨#[58]⟩ : ByteArray).size = 1 := rfl; omega)
  have hcB : ∀ w, (Op.stringOp .add (S1 ++ (⟨#[58]⟩ : ByteArray)) S2).run Tryz.prog w = .ok (.string (S1 ++ (⟨#[58]⟩ : ByteArray) ++ S2)) w := fun w => run_string_add_sum w _ S2 (by have : (⟨#[58]⟩ : ByteArray).size = 1 := rfl; rw [ByteArray.size_append]; omega)
  have h0 : Below w.heap.size w (w.alloc (.cells #[.int .i64 t.kind, .int .i64 t.num, .int .i64 t.c1, .int .i64 t.r1, .int .i64 t.c2, .int .i64 t.r2, .string ⟨t.word.toArray⟩, .slice A t.kids.length ca] 30)) := (Below.refl _ _).alloc (Nat.le_refl _) _
  obtain ⟨_, _, a2, a3, a4, a5, _, _⟩ := cells8_of (heap_alloc_new w (.cells #[.int .i64 t.kind, .int .i64 t.num, .int .i64 t.c1, .int .i64 t.r1, .int .i64 t.c2, .int .i64 t.r2, .string ⟨t.word.toArray⟩, .slice A t.kids.length ca] 30))
  go_enter Tryz.func28, Tryz.ntmps28
  go_wp2_with fail
  generalize w.alloc (.cells #[.int .i64 t.kind, .int .i64 t.num, .int .i64 t.c1, .int .i64 t.r1, .int .i64 t.c2, .int .i64 t.r2, .string ⟨t.word.toArray⟩, .slice A t.kids.length ca] 30) = w0 at *
  go_region_held3 (fun w' => w'.cell? ⟨w.heap.size, 2, none⟩ = some (.int .i64 t.c1) ∧ w'.cell? ⟨w.heap.size, 3, none⟩ = some (.int .i64 t.r1) ∧ w'.cell? ⟨w.heap.size, 4, none⟩ = some (.int .i64 t.c2) ∧ w'.cell? ⟨w.heap.size, 5, none⟩ = some (.int .i64 t.r2))
    (first | (simp only [World.cell?_drew]; exact ⟨a2, a3, a4, a5⟩) | exact ⟨e2, e3, e4, e5⟩ | exact ⟨d2, d3, d4, d5⟩ | fail)
    (first
    | (go_at_call 51; have x2 := d2; clear x2; refine Calls.mono (G.out _) ?_; rintro e w2 ⟨rfl, b2⟩
       have e2 := keep_cell b2 d2
       have e3 := keep_cell b2 d3
       have e4 := keep_cell b2 d4
       have e5 := keep_cell b2 d5
       have h2 := h1.trans (b2.mono h1.size)
       clear d2 d3 d4 d5)
    | (go_at_call 51; refine Calls.mono (H.out _) ?_; rintro e w1 ⟨rfl, b1⟩
       have B1 : Below w0.heap.size w0 w1 := (Below.refl _ w0).drew.trans b1
       have d2 := keep_cell B1 a2
       have d3 := keep_cell B1 a3
       have d4 := keep_cell B1 a4
       have d5 := keep_cell B1 a5
       have h1 := h0.trans (B1.mono h0.size)
       clear a2 a3 a4 a5))
  all_goals go_wp2_with fail
  all_goals go_ret
  all_goals exact ⟨rfl, h2⟩
set_option maxHeartbeats 1000000 in
set_option maxRecDepth 10000 in
theorem rtext_bad (t : Tr) (hlen : t.kids.length ≤ maxLen) (y : (t.kind == 2) = true) (n0 : (t.kind == 0) = false) (n1 : (t.kind == 1) = false) (n6 : (t.kind == 6) = false) (n3 : (t.kind == 3) = false) (n4 : (t.kind == 4) = false) (n5 : (t.kind == 5) = false) (w : World) (A : Option Addr) (ca : Nat) :
    Calls Tryz.prog 28 #[.agg #[.int .i64 t.kind, .int .i64 t.num, .int .i64 t.c1, .int .i64 t.r1, .int .i64 t.c2, .int .i64 t.r2, .string ⟨t.word.toArray⟩, .slice A t.kids.length ca]] w fun e w' => e = .returned (.string ⟨[35, 82, 69, 70].toArray⟩) ∧ Below w.heap.size w w' := by
  unfold maxLen at hlen
  go_enter Tryz.func28, Tryz.ntmps28
  go_wp2_with fail
  go_ret
  exact ⟨rfl, (Below.refl _ _).alloc (Nat.le_refl _) _⟩
set_option maxHeartbeats 1000000 in
set_option maxRecDepth 10000 in
theorem rtext_neg (t : Tr) (hlen : t.kids.length ≤ maxLen) (hk : t.kids.length = 1) (n0 : (t.kind == 0) = false) (n1 : (t.kind == 1) = false) (n6 : (t.kind == 6) = false) (y : (t.kind == 3) = true) (w : World) (g o ca : Nat) {u : Tr} {A' : Option Addr} {c' : Nat} (h8 : At8 w g o u A' c') {s : List UInt8} (hs : s.length ≤ 140737488355328)
    (hP : ∀ w1, Below w.heap.size w w1 → Calls Tryz.prog 52 #[.agg #[.int .i64 u.kind, .int .i64 u.num, .int .i64 u.c1, .int .i64 u.r1, .int .i64 u.c2, .int .i64 u.r2, .string ⟨u.word.toArray⟩, .slice A' u.kids.length c'], .int .i64 4] w1 fun e w' => e = .returned (.string ⟨s.toArray⟩) ∧ Below w1.heap.size w1 w') :
    Calls Tryz.prog 28 #[.agg #[.int .i64 t.kind, .int .i64 t.num, .int .i64 t.c1, .int .i64 t.r1, .int .i64 t.c2, .int .i64 t.r2, .string ⟨t.word.toArray⟩, .slice (some ⟨g, o, none⟩) t.kids.length ca]] w fun e w' => e = .returned (.string ((⟨#[45]⟩ : ByteArray) ++ ⟨s.toArray⟩)) ∧ Below w.heap.size w w' := by
  have h0 : ∀ ob, Below w.heap.size w (w.alloc ob) := fun ob => (Below.refl _ _).alloc (Nat.le_refl _) ob
  have H := Lib.hid (fun ob => hP (w.alloc ob) (h0 ob))
  have H8 := Lib.hid (fun ob => h8.kept (P := fun _ => True) (Kept.of_below (h0 ob)) trivial)
  rw [hk]
  have hsz : (⟨s.toArray⟩ : ByteArray).size ≤ 140737488355328 := by rw [size_bytes]; exact hs
  generalize (⟨s.toArray⟩ : ByteArray) = S at *
  clear hP h8 h0 hk hs
  obtain ⟨q0, q1, q2, q3, q4, q5, q6, q7⟩ := H8.out (.cells #[.int .i64 t.kind, .int .i64 t.num, .int .i64 t.c1, .int .i64 t.r1, .int .i64 t.c2, .int .i64 t.r2, .string ⟨t.word.toArray⟩, .slice (some ⟨g, o, none⟩) 1 ca] 30)
  go_enter Tryz.func28, Tryz.ntmps28
  go_wp2_with fail
  refine Calls.mono (H.out _) ?_; rintro e w1 ⟨rfl, b1⟩
  have h1 : Below w.heap.size w w1 := ((Below.refl _ _).alloc (Nat.le_refl _) _).trans (b1.mono (by simp))
  clear b1
  go_wp2_with fail
  go_ret
  exact ⟨rfl, h1⟩
end Go.Proofs.YtahdlijkohmdfaaGreatDoor
/- The document's own text of a tree: Op. -/
namespace Go.Proofs.YtahdlijkohmdfaaGreatDoor
open Go.RowKit

set_option maxHeartbeats 2000000 in
set_option maxRecDepth 10000 in
theorem rtext_op (t : Tr) (hlen : t.kids.length ≤ maxLen) (hk : t.kids.length = 2) (n0 : (t.kind == 0) = false) (n1 : (t.kind == 1) = false) (n6 : (t.kind == 6) = false) (n3 : (t.kind == 3) = false) (y : (t.kind == 4) = true) (w : World) (g o ca : Nat) {u v : Tr} {A' B' : Option Addr} {c' d' : Nat} (h8 : At8 w g o u A' c') (k8 : At8 w g (o + 8) v B' d') {s1 s2 : List UInt8} (hs : (s1 ++ (t.word ++ s2)).length ≤ 140737488355328)
    (hP : ∀ w1, Below w.heap.size w w1 → Calls Tryz.prog 52 #[.agg #[.int .i64 u.kind, .int .i64 u.num, .int .i64 u.c1, .int .i64 u.r1, .int .i64 u.c2, .int .i64 u.r2, .string ⟨u.word.toArray⟩, .slice A' u.kids.length c'], .int .i64 (lvl t.word : Int)] w1 fun e w' => e = .returned (.string ⟨s1.toArray⟩) ∧ Below w1.heap.size w1 w')
    (hQ : ∀ w1, Below w.heap.size w w1 → Calls Tryz.prog 52 #[.agg #[.int .i64 v.kind, .int .i64 v.num, .int .i64 v.c1, .int .i64 v.r1, .int .i64 v.c2, .int .i64 v.r2, .string ⟨v.word.toArray⟩, .slice B' v.kids.length d'], .int .i64 ((lvl t.word : Int) + 1)] w1 fun e w' => e = .returned (.string ⟨s2.toArray⟩) ∧ Below w1.heap.size w1 w') :
    Calls Tryz.prog 28 #[.agg #[.int .i64 t.kind, .int .i64 t.num, .int .i64 t.c1, .int .i64 t.r1, .int .i64 t.c2, .int .i64 t.r2, .string ⟨t.word.toArray⟩, .slice (some ⟨g, o, none⟩) t.kids.length ca]] w fun e w' => e = .returned (.string ((⟨s1.toArray⟩ : ByteArray) ++ ⟨t.word.toArray⟩ ++ ⟨s2.toArray⟩)) ∧ Below w.heap.size w w' := by
  have h0 : Below w.heap.size w (w.alloc (.cells #[.int .i64 t.kind, .int .i64 t.num, .int .i64 t.c1, .int .i64 t.r1, .int .i64 t.c2, .int .i64 t.r2, .string ⟨t.word.toArray⟩, .slice (some ⟨g, o, none⟩) 2 ca] 30)) := (Below.refl _ _).alloc (Nat.le_refl _) _
  have H0 := Lib.hid h0
  have HP := Lib.hid hP
  have HQ := Lib.hid hQ
  have HL := Lib.hid (fun w => rLevel_any ⟨t.word.toArray⟩ w)
  have hw : (⟨t.word.toArray⟩ : ByteArray).data.toList = t.word := by simp
  rw [hw] at HL
  have hlv := lvl_le t.word
  have H8 := Lib.hid (h8.kept (P := fun _ => True) (Kept.of_below h0) trivial)
  have K8 := Lib.hid (k8.kept (P := fun _ => True) (Kept.of_below h0) trivial)
  rw [hk]
  have z1 : (⟨s1.toArray⟩ : ByteArray).size ≤ 140737488355328 := by rw [size_bytes]; simp at hs; omega
  have z2 : (⟨s2.toArray⟩ : ByteArray).size ≤ 140737488355328 := by rw [size_bytes]; simp at hs; omega
  have z3 : (⟨t.word.toArray⟩ : ByteArray).size ≤ 140737488355328 := by rw [size_bytes]; simp at hs; omega
  have hlb : (lvl t.word : Int) ≤ 3 := by omega
  have hla : (0 : Int) ≤ (lvl t.word : Int) := by omega
  generalize (lvl t.word : Int) = lv at *
  generalize (⟨s1.toArray⟩ : ByteArray) = S1 at *
  generalize (⟨s2.toArray⟩ : ByteArray) = S2 at *
  generalize (⟨t.word.toArray⟩ : ByteArray) = W at *
  clear hP hQ h8 k8 hk hs hw hlv h0
  go_enter Tryz.func28, Tryz.ntmps28
  go_wp2_with fail
  refine Calls.mono (HL.out _) ?_; rintro e w9 ⟨rfl, rfl⟩
  obtain ⟨q0, q1, q2, q3, q4, q5, q6, q7⟩ := H8.out
  go_wp2_with fail
  refine Calls.mono (HP.out _ H0.out) ?_; rintro e w1 ⟨rfl, b1⟩
  have H1 := Lib.hid (H0.out.trans (b1.mono H0.out.size))
  have K1 := Lib.hid (K8.out.kept (P := fun _ => True) (Kept.of_below b1) trivial)
  have k16 := keep_fresh b1 6 (v := .string W) rfl
  have k17 := keep_fresh b1 7 (v := .slice (some ⟨g, o, none⟩) 2 ca) rfl
  clear b1 q0 q1 q2 q3 q4 q5 q6 q7
  obtain ⟨q0, q1, q2, q3, q4, q5, q6, q7⟩ := K1.out
  go_wp2_with fail
  refine Calls.mono (HQ.out _ H1.out) ?_; rintro e w2 ⟨rfl, b2⟩
  have H2 := Lib.hid (H1.out.trans (b2.mono H1.out.size))
  have k26 := keep_cell b2 k16
  clear b2 q0 q1 q2 q3 q4 q5 q6 q7 k16 k17
  go_wp2_with fail
  go_ret
  exact ⟨rfl, H2.out⟩
end Go.Proofs.YtahdlijkohmdfaaGreatDoor
/- The document's own text of a tree: calls. -/
namespace Go.Proofs.YtahdlijkohmdfaaGreatDoor
open Go.RowKit

/-- texts with commas between -/
def txB : List (List UInt8) → List UInt8
  | [] => []
  | s :: r => s ++ txK r
theorem txH_txB : ∀ (l : List (List UInt8)), l ≠ [] → txH l = 40 :: txB l
  | [], h => absurd rfl h
  | _ :: _, _ => rfl
theorem txB_take_le (ks : List Tr) (i : Nat) : (txB (txL (ks.take i))).length ≤ (txB (txL ks)).length := by
  cases hk : ks.take i with
  | nil => rw [txL_nil]; simp [txB]
  | cons u r =>
    have h := txH_take_le ks i
    rw [hk, txH_txB _ (by rw [txL_cons]; simp)] at h
    cases ks with
    | nil => simp at hk
    | cons v q =>
      rw [txH_txB (txL (v :: q)) (by rw [txL_cons]; simp)] at h
      simpa using h
theorem txB_take {ks : List Tr} {i : Nat} {u : Tr} (h : ks[i]? = some u) : txB (txL (ks.take (i + 1))) = if i = 0 then txT u else txB (txL (ks.take i)) ++ 44 :: txT u := by
  have hl : (ks.take i).length = i := by have := (List.getElem?_eq_some_iff.1 h).1; simp; omega
  have hh := txH_take h
  have hne : txL (ks.take (i + 1)) ≠ [] := by
    rw [txL_map]
    intro e
    have e2 : (List.map txT (ks.take (i + 1))).length = 0 := by rw [e]; rfl
    have h3 := (List.getElem?_eq_some_iff.1 h).1
    rw [List.length_map, List.length_take] at e2
    omega
  rw [txH_txB _ hne] at hh
  by_cases h0 : i = 0
  · subst h0
    rw [if_pos rfl]
    rw [List.take_zero, txL_nil] at hh
    simpa [txH, mkB] using hh
  · rw [if_neg h0]
    have hne2 : txL (ks.take i) ≠ [] := by
      rw [txL_map]
      intro e
      have e2 : (List.map txT (ks.take i)).length = 0 := by rw [e]; rfl
      rw [List.length_map, hl] at e2
      omega
    rw [txH_txB _ hne2] at hh
    simp only [List.cons_append, List.cons.injEq, true_and] at hh
    rw [hh]; simp [mkB, h0]
def accT (t : Tr) (i : Nat) : ByteArray := ⟨(t.word ++ 40 :: txB (txL (t.kids.take i))).toArray⟩
theorem accT_zero (t : Tr) : accT t 0 = (⟨t.word.toArray⟩ : ByteArray) ++ (⟨#[40]⟩ : ByteArray) := by
  unfold accT
  rw [List.take_zero, txL_nil]
  exact (cat_bytes t.word [40]).symm
theorem accT_one {t u : Tr} (h : t.kids[0]? = some u) : accT t (0 + 1) = accT t 0 ++ ⟨(txT u).toArray⟩ := by
  unfold accT
  rw [txB_take h, if_pos rfl, cat_bytes, List.take_zero, txL_nil]
  simp [txB]
theorem accT_succ {t u : Tr} {i : Nat} (h : t.kids[i]? = some u) (h0 : i ≠ 0) : accT t (i + 1) = accT t i ++ (⟨#[44]⟩ : ByteArray) ++ ⟨(txT u).toArray⟩ := by
  unfold accT
  rw [txB_take h, if_neg h0]
  rw [show (⟨#[44]⟩ : ByteArray) = ⟨([44] : List UInt8).toArray⟩ from rfl, cat_bytes, cat_bytes]
  simp
theorem accT_size (t : Tr) (i : Nat) : (accT t i).size ≤ t.word.length + 1 + (txB (txL t.kids)).length := by
  unfold accT
  rw [size_bytes]
  have := txB_take_le t.kids i
  simp; omega
theorem kid_size {ks : List Tr} {i : Nat} {u : Tr} (h : ks[i]? = some u) : (txT u).length ≤ (txB (txL ks)).length := by
  have h1 := txB_take_le ks (i + 1)
  rw [txB_take h] at h1
  split at h1
  · exact h1
  · simp at h1; omega
set_option maxHeartbeats 2000000 in
set_option maxRecDepth 10000 in
theorem rtext_call (t : Tr) (hlen : t.kids.length ≤ maxLen) (n0 : (t.kind == 0) = false) (n1 : (t.kind == 1) = false) (n6 : (t.kind == 6) = false) (n3 : (t.kind == 3) = false) (n4 : (t.kind == 4) = false) (y : (t.kind == 5) = true) (w : World) (A : Option Addr) (ca : Nat) (hA : KV w (fun _ => True) t A) (hs : t.word.length + 2 + (txB (txL t.kids)).length ≤ 140737488355328) (ih : ∀ u ∈ t.kids, TextC u) :
    Calls Tryz.prog 28 #[.agg #[.int .i64 t.kind, .int .i64 t.num, .int .i64 t.c1, .int .i64 t.r1, .int .i64 t.c2, .int .i64 t.r2, .string ⟨t.word.toArray⟩, .slice A t.kids.length ca]] w fun e w' => e = .returned (.string (accT t t.kids.length ++ (⟨#[41]⟩ : ByteArray))) ∧ Below w.heap.size w w' := by
  have h0 : Below w.heap.size w (w.alloc (.cells #[.int .i64 t.kind, .int .i64 t.num, .int .i64 t.c1, .int .i64 t.r1, .int .i64 t.c2, .int .i64 t.r2, .string ⟨t.word.toArray⟩, .slice A t.kids.length ca] 30)) := (Below.refl _ _).alloc (Nat.le_refl _) _
  have H0 := Lib.hid h0
  have k07 := (cells8_of (heap_alloc_new w (.cells #[.int .i64 t.kind, .int .i64 t.num, .int .i64 t.c1, .int .i64 t.r1, .int .i64 t.c2, .int .i64 t.r2, .string ⟨t.word.toArray⟩, .slice A t.kids.length ca] 30))).2.2.2.2.2.2.2
  have HA := Lib.hid hA
  have HI := Lib.hid ih
  have HS := Lib.hid (fun i => accT_size t i)
  have HB := Lib.hid hs
  have HZ := Lib.hid (accT_zero t)
  have hw2 : (⟨t.word.toArray⟩ : ByteArray).size ≤ 140737488355328 := by rw [size_bytes]; omega
  unfold maxLen at hlen
  generalize (⟨t.word.toArray⟩ : ByteArray) = W at *
  clear hA ih hs h0
  go_enter Tryz.func28, Tryz.ntmps28
  go_wp2_with fail
  go_loopw [6, 7] (fun vs vi wr => ∃ i : Nat, i ≤ t.kids.length ∧ vs = .string (accT t i) ∧ vi = .int .i64 (i : Int) ∧ Hid (Below w.heap.size w wr) ∧ wr.cell? ⟨w.heap.size, 7, none⟩ = some (.slice A t.kids.length ca)) (fun _ vi _ => t.kids.length - (intOf vi).toNat)
  case atStart => exact ⟨0, Nat.zero_le _, by rw [HZ.out], rfl, H0, k07⟩
  case round =>
    obtain ⟨i, hi, rfl, rfl, Hr, k7⟩ := hrel
    clear k07 H0 HZ
    have hz := HS.out i
    have hbb := HB.out
    have hzz : (accT t i).size ≤ 140737488355328 := by omega
    by_cases hlt : i < t.kids.length
    · have ha : t.kids[i]? = some (t.kids[i]'hlt) := List.getElem?_eq_getElem hlt
      obtain ⟨g, o, rfl⟩ := HA.out.addr ha
      obtain ⟨_, hg, A', c', h8, hkv⟩ := HA.out.kid ha
      rw [Nat.mul_comm] at h8
      have hks := kid_size ha
      have HT := Lib.hid (HI.out _ (List.getElem_mem hlt) (by omega) wr A' c' (hkv.kept (Kept.of_below Hr.out)))
      have q8 := h8.kept (P := fun _ => True) (Kept.of_below Hr.out) trivial
      have hus : (⟨(txT (t.kids[i]'hlt)).toArray⟩ : ByteArray).size ≤ 140737488355328 := by rw [size_bytes]; omega
      have HC : Hid (accT t (i + 1) = if i = 0 then accT t i ++ ⟨(txT (t.kids[i]'hlt)).toArray⟩ else accT t i ++ (⟨#[44]⟩ : ByteArray) ++ ⟨(txT (t.kids[i]'hlt)).toArray⟩) := Lib.hid (by
        by_cases h0 : i = 0
        · subst h0; rw [if_pos rfl]; exact accT_one ha
        · rw [if_neg h0]; exact accT_succ ha h0)
      generalize (⟨(txT (t.kids[i]'hlt)).toArray⟩ : ByteArray) = S at *
      generalize t.kids[i]'hlt = u at *
      obtain ⟨q0, q1, q2, q3, q4, q5, q6, q7⟩ := q8
      clear ha h8 hkv hks hz hbb
      by_cases h0 : i = 0
      · have HC2 := HC.out
        rw [if_pos h0] at HC2
        have HC3 := Lib.hid HC2
        clear HC HC2
        subst h0
        rw [Nat.zero_mul, Nat.add_zero] at q0 q1 q2 q3 q4 q5 q6 q7
        have hc0 : decide ((0 : Int) < ((0 : Nat) : Int)) = false := by decide
        go_wp2_with fail
        refine Calls.mono HT.out ?_; rintro e w2 ⟨rfl, b2⟩
        have H2 := Lib.hid (Hr.out.trans (b2.mono Hr.out.size))
        have k27 := keep_cell b2 k7
        clear b2 q0 q1 q2 q3 q4 q5 q6 q7 k7
        go_wp2_with fail
        go_roundw
        case rel => exact ⟨0 + 1, by omega, by rw [HC3.out], by go_num, H2, k27⟩
        case measure => simp [intOf]; omega
      · have HC2 := HC.out
        rw [if_neg h0] at HC2
        have HC3 := Lib.hid HC2
        clear HC HC2
        have hc0 : decide ((0 : Int) < (i : Int)) = true := decide_eq_true (by omega)
        go_wp2_with fail
        refine Calls.mono HT.out ?_; rintro e w2 ⟨rfl, b2⟩
        have H2 := Lib.hid (Hr.out.trans (b2.mono Hr.out.size))
        have k27 := keep_cell b2 k7
        clear b2 q0 q1 q2 q3 q4 q5 q6 q7 k7
        go_wp2_with fail
        go_roundw
        case rel => exact ⟨i + 1, by omega, by rw [HC3.out], by go_num, H2, k27⟩
        case measure => simp [intOf]; omega
    · have hii : i = t.kids.length := by omega
      subst hii
      go_wp2_with fail
      go_ret
      exact ⟨rfl, Hr.out⟩
end Go.Proofs.YtahdlijkohmdfaaGreatDoor
/- The document's own answer how deep a tree is. -/
namespace Go.Proofs.YtahdlijkohmdfaaGreatDoor
open Go.RowKit

set_option maxHeartbeats 2000000 in
set_option maxRecDepth 10000 in
theorem rdeep_any : ∀ (d : Nat) (t : Tr), deepT t ≤ d → d ≤ 1000000000 → Wid t → ∀ (w : World) (P : Nat → Prop) (A : Option Addr) (cap : Nat), KV w P t A →
    Calls Tryz.prog 15 #[tv t A cap] w fun e w' => e = .returned (.int .i64 (deepT t : Int)) ∧ Below w.heap.size w w' := by
  intro d
  induction d with
  | zero => intro t h; rw [deep_eq] at h; omega
  | succ d ih =>
    intro t hd hb hw w P A cap hk
    unfold tv
    have hlen := hw.len
    unfold maxLen at hlen
    have HW := Lib.hid hw
    have HK := Lib.hid hk
    have HI := Lib.hid ih
    have HE := Lib.hid (deep_eq t)
    have hdl : deepL t.kids ≤ d := by rw [deep_eq] at hd; omega
    clear hk hd ih hw
    go_enter Tryz.func15, Tryz.ntmps15
    go_wp2_with fail
    go_loopw [3, 4] (fun vn vi wr => ∃ i : Nat, i ≤ t.kids.length ∧ vn = .int .i64 (deepL (t.kids.take i) : Int) ∧ vi = .int .i64 (i : Int) ∧ Below w.heap.size w wr ∧ w.heap.size < wr.heap.size ∧ wr.cell? ⟨w.heap.size, 7, none⟩ = some (.slice A t.kids.length cap)) (fun _ vi _ => t.kids.length - (intOf vi).toNat)
    case atStart => exact ⟨0, Nat.zero_le _, by rw [List.take_zero, deepL]; rfl, rfl, (Below.refl _ _).alloc (Nat.le_refl _) _, by simp, by simp [go_sem]⟩
    case round =>
      obtain ⟨i, hi, rfl, rfl, hbel, hsz, c7⟩ := hrel
      have htl := deep_take_le t.kids i
      by_cases hlt : i < t.kids.length
      · have hu : t.kids[i]? = some (t.kids[i]'hlt) := List.getElem?_eq_getElem hlt
        obtain ⟨g, o, rfl⟩ := HK.out.addr hu
        obtain ⟨hg, A', cap', h8, hkv⟩ := HK.out.kidAt hbel hu
        have htk := Lib.hid (deep_take hu)
        have hdu := deep_kid hu
        have HC := Lib.hid (HI.out _ (Nat.le_trans hdu hdl) (by omega) (HW.out.kid hu) wr _ A' cap' hkv)
        generalize t.kids[i]'hlt = u at *
        unfold At8 at h8
        unfold tv at HC
        obtain ⟨q0, q1, q2, q3, q4, q5, q6, q7⟩ := h8
        clear hkv hu
        go_wp2_with fail
        refine HC.out.mono ?_; rintro e w1 ⟨rfl, b1⟩
        have e7 := keep_cell b1 c7
        have s7 : w.heap.size < w1.heap.size := Nat.lt_of_lt_of_le hsz b1.size
        have hb1 := hbel.trans (b1.mono hbel.size)
        clear b1 c7 q0 q1 q2 q3 q4 q5 q6 q7
        go_wp2_with fail
        go_roundw
        case rel => exact ⟨i + 1, by omega, by rw [htk.out]; congr 1; omega, by go_num, hb1, s7, e7⟩
        case measure => simp [intOf]; omega
      · have hii : i = t.kids.length := by omega
        subst hii
        rw [List.take_length] at *
        have hw : wrap64 ((deepL t.kids : Int) + 1) = (deepL t.kids : Int) + 1 := IntWalk.wrap64_in _ (by omega)
        go_wp2_with fail
        go_ret
        exact ⟨ret_int (by have := HE.out; omega), hbel⟩
end Go.Proofs.YtahdlijkohmdfaaGreatDoor
/- The document's own answer whether two trees are the same. -/
namespace Go.Proofs.YtahdlijkohmdfaaGreatDoor
open Go.RowKit

set_option maxHeartbeats 2000000 in
set_option maxRecDepth 10000 in
theorem rsame_no0 (t u : Tr) (A B : Option Addr) (ca cb : Nat) (w : World) (h0 : (t.kind != u.kind) = true) :
    Calls Tryz.prog 8 #[.agg #[.int .i64 t.kind, .int .i64 t.num, .int .i64 t.c1, .int .i64 t.r1, .int .i64 t.c2, .int .i64 t.r2, .string ⟨t.word.toArray⟩, .slice A t.kids.length ca], .agg #[.int .i64 u.kind, .int .i64 u.num, .int .i64 u.c1, .int .i64 u.r1, .int .i64 u.c2, .int .i64 u.r2, .string ⟨u.word.toArray⟩, .slice B u.kids.length cb]] w fun e w' => e = .returned (.bool false) ∧ Below w.heap.size w w' := by
  have hG := fun op X Y W => guard_range op X Y #[.int .i64 t.c1, .int .i64 t.r1, .int .i64 t.c2, .int .i64 t.r2] #[.int .i64 u.c1, .int .i64 u.r1, .int .i64 u.c2, .int .i64 u.r2] W
  have hN := neq_range t.c1 t.r1 t.c2 t.r2 u.c1 u.r1 u.c2 u.r2
  go_enter Tryz.func8, Tryz.ntmps8
  go_wp2_with fail
  go_ret
  exact ⟨rfl, ((Below.refl _ _).alloc (Nat.le_refl _) _).alloc (by simp) _⟩
set_option maxHeartbeats 2000000 in
set_option maxRecDepth 10000 in
theorem rsame_no1 (t u : Tr) (A B : Option Addr) (ca cb : Nat) (w : World) (h0 : (t.kind != u.kind) = false) (h1 : (t.num != u.num) = true) :
    Calls Tryz.prog 8 #[.agg #[.int .i64 t.kind, .int .i64 t.num, .int .i64 t.c1, .int .i64 t.r1, .int .i64 t.c2, .int .i64 t.r2, .string ⟨t.word.toArray⟩, .slice A t.kids.length ca], .agg #[.int .i64 u.kind, .int .i64 u.num, .int .i64 u.c1, .int .i64 u.r1, .int .i64 u.c2, .int .i64 u.r2, .string ⟨u.word.toArray⟩, .slice B u.kids.length cb]] w fun e w' => e = .returned (.bool false) ∧ Below w.heap.size w w' := by
  have hG := fun op X Y W => guard_range op X Y #[.int .i64 t.c1, .int .i64 t.r1, .int .i64 t.c2, .int .i64 t.r2] #[.int .i64 u.c1, .int .i64 u.r1, .int .i64 u.c2, .int .i64 u.r2] W
  have hN := neq_range t.c1 t.r1 t.c2 t.r2 u.c1 u.r1 u.c2 u.r2
  go_enter Tryz.func8, Tryz.ntmps8
  go_wp2_with fail
  go_ret
  exact ⟨rfl, ((Below.refl _ _).alloc (Nat.le_refl _) _).alloc (by simp) _⟩
set_option maxHeartbeats 2000000 in
set_option maxRecDepth 10000 in
theorem rsame_no2 (t u : Tr) (A B : Option Addr) (ca cb : Nat) (w : World) (h0 : (t.kind != u.kind) = false) (h1 : (t.num != u.num) = false) (h2 : (!(t.c1 == u.c1 && t.r1 == u.r1 && (t.c2 == u.c2 && t.r2 == u.r2))) = true) :
    Calls Tryz.prog 8 #[.agg #[.int .i64 t.kind, .int .i64 t.num, .int .i64 t.c1, .int .i64 t.r1, .int .i64 t.c2, .int .i64 t.r2, .string ⟨t.word.toArray⟩, .slice A t.kids.length ca], .agg #[.int .i64 u.kind, .int .i64 u.num, .int .i64 u.c1, .int .i64 u.r1, .int .i64 u.c2, .int .i64 u.r2, .string ⟨u.word.toArray⟩, .slice B u.kids.length cb]] w fun e w' => e = .returned (.bool false) ∧ Below w.heap.size w w' := by
  have hG := fun op X Y W => guard_range op X Y #[.int .i64 t.c1, .int .i64 t.r1, .int .i64 t.c2, .int .i64 t.r2] #[.int .i64 u.c1, .int .i64 u.r1, .int .i64 u.c2, .int .i64 u.r2] W
  have hN := neq_range t.c1 t.r1 t.c2 t.r2 u.c1 u.r1 u.c2 u.r2
  rw [h2] at hN
  go_enter Tryz.func8, Tryz.ntmps8
  go_wp2_with fail
  go_ret
  exact ⟨rfl, ((Below.refl _ _).alloc (Nat.le_refl _) _).alloc (by simp) _⟩
set_option maxHeartbeats 2000000 in
set_option maxRecDepth 10000 in
theorem rsame_no3 (t u : Tr) (A B : Option Addr) (ca cb : Nat) (w : World) (h0 : (t.kind != u.kind) = false) (h1 : (t.num != u.num) = false) (h2 : (!(t.c1 == u.c1 && t.r1 == u.r1 && (t.c2 == u.c2 && t.r2 == u.r2))) = false) (h3 : (t.word == u.word) = false) :
    Calls Tryz.prog 8 #[.agg #[.int .i64 t.kind, .int .i64 t.num, .int .i64 t.c1, .int .i64 t.r1, .int .i64 t.c2, .int .i64 t.r2, .string ⟨t.word.toArray⟩, .slice A t.kids.length ca], .agg #[.int .i64 u.kind, .int .i64 u.num, .int .i64 u.c1, .int .i64 u.r1, .int .i64 u.c2, .int .i64 u.r2, .string ⟨u.word.toArray⟩, .slice B u.kids.length cb]] w fun e w' => e = .returned (.bool false) ∧ Below w.heap.size w w' := by
  have hG := fun op X Y W => guard_range op X Y #[.int .i64 t.c1, .int .i64 t.r1, .int .i64 t.c2, .int .i64 t.r2] #[.int .i64 u.c1, .int .i64 u.r1, .int .i64 u.c2, .int .i64 u.r2] W
  have hN := neq_range t.c1 t.r1 t.c2 t.r2 u.c1 u.r1 u.c2 u.r2
  rw [h2] at hN
  go_enter Tryz.func8, Tryz.ntmps8
  go_wp2_with fail
  go_ret
  exact ⟨rfl, ((Below.refl _ _).alloc (Nat.le_refl _) _).alloc (by simp) _⟩
set_option maxHeartbeats 2000000 in
set_option maxRecDepth 10000 in
theorem rsame_no4 (t u : Tr) (A B : Option Addr) (ca cb : Nat) (w : World) (h0 : (t.kind != u.kind) = false) (h1 : (t.num != u.num) = false) (h2 : (!(t.c1 == u.c1 && t.r1 == u.r1 && (t.c2 == u.c2 && t.r2 == u.r2))) = false) (h3 : (t.word == u.word) = true) (h4 : ((t.kids.length : Int) != (u.kids.length : Int)) = true) :
    Calls Tryz.prog 8 #[.agg #[.int .i64 t.kind, .int .i64 t.num, .int .i64 t.c1, .int .i64 t.r1, .int .i64 t.c2, .int .i64 t.r2, .string ⟨t.word.toArray⟩, .slice A t.kids.length ca], .agg #[.int .i64 u.kind, .int .i64 u.num, .int .i64 u.c1, .int .i64 u.r1, .int .i64 u.c2, .int .i64 u.r2, .string ⟨u.word.toArray⟩, .slice B u.kids.length cb]] w fun e w' => e = .returned (.bool false) ∧ Below w.heap.size w w' := by
  have hG := fun op X Y W => guard_range op X Y #[.int .i64 t.c1, .int .i64 t.r1, .int .i64 t.c2, .int .i64 t.r2] #[.int .i64 u.c1, .int .i64 u.r1, .int .i64 u.c2, .int .i64 u.r2] W
  have hN := neq_range t.c1 t.r1 t.c2 t.r2 u.c1 u.r1 u.c2 u.r2
  rw [h2] at hN
  go_enter Tryz.func8, Tryz.ntmps8
  go_wp2_with fail
  go_ret
  exact ⟨rfl, ((Below.refl _ _).alloc (Nat.le_refl _) _).alloc (by simp) _⟩
set_option maxHeartbeats 2000000 in
set_option maxRecDepth 10000 in
theorem rsame_yes (d : Nat) (ih : ∀ (t u : Tr), deepT t ≤ d → Wid t → Wid u → ∀ (w : World) (P Q : Nat → Prop) (A B : Option Addr) (ca cb : Nat), KV w P t A → KV w Q u B →
      Calls Tryz.prog 8 #[tv t A ca, tv u B cb] w fun e w' => (∃ b, e = .returned (.bool b) ∧ (b = true ↔ t = u)) ∧ Below w.heap.size w w')
    (t u : Tr) (hd : deepT t ≤ d + 1) (ht : Wid t) (hu : Wid u) (w : World) (P Q : Nat → Prop) (A B : Option Addr) (ca cb : Nat) (hA : KV w P t A) (hB : KV w Q u B) (h0 : (t.kind != u.kind) = false) (h1 : (t.num != u.num) = false) (h2 : (!(t.c1 == u.c1 && t.r1 == u.r1 && (t.c2 == u.c2 && t.r2 == u.r2))) = false) (h3 : (t.word == u.word) = true) (h4 : ((t.kids.length : Int) != (u.kids.length : Int)) = false) :
    Calls Tryz.prog 8 #[.agg #[.int .i64 t.kind, .int .i64 t.num, .int .i64 t.c1, .int .i64 t.r1, .int .i64 t.c2, .int .i64 t.r2, .string ⟨t.word.toArray⟩, .slice A t.kids.length ca], .agg #[.int .i64 u.kind, .int .i64 u.num, .int .i64 u.c1, .int .i64 u.r1, .int .i64 u.c2, .int .i64 u.r2, .string ⟨u.word.toArray⟩, .slice B u.kids.length cb]] w fun e w' => (∃ b, e = .returned (.bool b) ∧ (b = true ↔ t.kids = u.kids)) ∧ Below w.heap.size w w' := by
  have hG := fun op X Y W => guard_range op X Y #[.int .i64 t.c1, .int .i64 t.r1, .int .i64 t.c2, .int .i64 t.r2] #[.int .i64 u.c1, .int .i64 u.r1, .int .i64 u.c2, .int .i64 u.r2] W
  have hN := neq_range t.c1 t.r1 t.c2 t.r2 u.c1 u.r1 u.c2 u.r2
  rw [h2] at hN
  have hlen := ht.len
  unfold maxLen at hlen
  have hll : t.kids.length = u.kids.length := by have h4' := h4; rw [bne_eq_false_iff_eq] at h4'; omega
  have HT := Lib.hid ht
  have HU := Lib.hid hu
  have HA := Lib.hid hA
  have HB := Lib.hid hB
  have HI := Lib.hid ih
  have HLL := Lib.hid hll
  have hdl : deepL t.kids ≤ d := by rw [deep_eq] at hd; omega
  clear ih hd ht hu hA hB hll
  go_enter Tryz.func8, Tryz.ntmps8
  go_wp2_with fail
  go_loopw [5] (fun vi wr => ∃ i : Nat, i ≤ t.kids.length ∧ vi = .int .i64 (i : Int) ∧ Hid (t.kids.take i = u.kids.take i) ∧ Below w.heap.size w wr ∧ w.heap.size + 1 < wr.heap.size ∧ wr.cell? ⟨w.heap.size, 7, none⟩ = some (.slice A t.kids.length ca) ∧ wr.cell? ⟨w.heap.size + 1, 7, none⟩ = some (.slice B u.kids.length cb)) (fun vi _ => t.kids.length - (intOf vi).toNat)
  case atStart => exact ⟨0, Nat.zero_le _, rfl, Lib.hid rfl, ((Below.refl _ _).alloc (Nat.le_refl _) _).alloc (by simp) _, by simp, by simp [go_sem], by simp [go_sem]⟩
  case round =>
    obtain ⟨i, hi, rfl, HTK, hbel, hsz, c7, e7⟩ := hrel
    by_cases hlt : i < t.kids.length
    · have hlt2 : i < u.kids.length := by have := HLL.out; omega
      have ha : t.kids[i]? = some (t.kids[i]'hlt) := List.getElem?_eq_getElem hlt
      have hb : u.kids[i]? = some (u.kids[i]'hlt2) := List.getElem?_eq_getElem hlt2
      obtain ⟨g, o, rfl⟩ := HA.out.addr ha
      obtain ⟨g2, o2, rfl⟩ := HB.out.addr hb
      obtain ⟨hg, A', ca', h8, hkv⟩ := HA.out.kidAt hbel ha
      obtain ⟨hg2, B', cb', k8, hkw⟩ := HB.out.kidAt hbel hb
      have HTE := Lib.hid fun e => take_eq ha hb HTK.out e
      have HNE := Lib.hid (And.intro ha hb)
      have HC := Lib.hid (HI.out _ _ (Nat.le_trans (deep_kid ha) hdl) (HT.out.kid ha) (HU.out.kid hb) wr.drew _ _ A' B' ca' cb' (hkv.kept (Kept.drew (Kept.refl _ _))) (hkw.kept (Kept.drew (Kept.refl _ _))))
      generalize t.kids[i]'hlt = x at *
      generalize u.kids[i]'hlt2 = y at *
      unfold At8 at h8 k8
      unfold tv at HC
      obtain ⟨q0, q1, q2, q3, q4, q5, q6, q7⟩ := h8
      obtain ⟨r0, r1, r2, r3, r4, r5, r6, r7⟩ := k8
      clear hkv hkw ha hb
      go_wp2_with fail
      go_region_held3 (fun w' => w'.cell? ⟨g, o + i * 8, none⟩ = some (.int .i64 x.kind) ∧ w'.cell? ⟨g, o + i * 8 + 1, none⟩ = some (.int .i64 x.num) ∧ w'.cell? ⟨g, o + i * 8 + 2, none⟩ = some (.int .i64 x.c1) ∧ w'.cell? ⟨g, o + i * 8 + 3, none⟩ = some (.int .i64 x.r1) ∧ w'.cell? ⟨g, o + i * 8 + 4, none⟩ = some (.int .i64 x.c2) ∧ w'.cell? ⟨g, o + i * 8 + 5, none⟩ = some (.int .i64 x.r2) ∧ w'.cell? ⟨g, o + i * 8 + 6, none⟩ = some (.string ⟨x.word.toArray⟩) ∧ w'.cell? ⟨g, o + i * 8 + 7, none⟩ = some (.slice A' x.kids.length ca') ∧ w'.cell? ⟨g2, o2 + i * 8, none⟩ = some (.int .i64 y.kind) ∧ w'.cell? ⟨g2, o2 + i * 8 + 1, none⟩ = some (.int .i64 y.num) ∧ w'.cell? ⟨g2, o2 + i * 8 + 2, none⟩ = some (.int .i64 y.c1) ∧ w'.cell? ⟨g2, o2 + i * 8 + 3, none⟩ = some (.int .i64 y.r1) ∧ w'.cell? ⟨g2, o2 + i * 8 + 4, none⟩ = some (.int .i64 y.c2) ∧ w'.cell? ⟨g2, o2 + i * 8 + 5, none⟩ = some (.int .i64 y.r2) ∧ w'.cell? ⟨g2, o2 + i * 8 + 6, none⟩ = some (.string ⟨y.word.toArray⟩) ∧ w'.cell? ⟨g2, o2 + i * 8 + 7, none⟩ = some (.slice B' y.kids.length cb') ∧ w'.cell? ⟨w.heap.size, 7, none⟩ = some (.slice (some ⟨g, o, none⟩) t.kids.length ca) ∧ w'.cell? ⟨w.heap.size + 1, 7, none⟩ = some (.slice (some ⟨g2, o2, none⟩) u.kids.length cb))
        (first | (simp only [World.cell?_drew]; with_reducible exact ⟨q0, q1, q2, q3, q4, q5, q6, q7, r0, r1, r2, r3, r4, r5, r6, r7, c7, e7⟩) | with_reducible exact ⟨mq0, mq1, mq2, mq3, mq4, mq5, mq6, mq7, mr0, mr1, mr2, mr3, mr4, mr5, mr6, mr7, mc7, me7⟩ | fail)
        (first
        | (go_at_call 8; refine HC.out.mono ?_; rintro e w1 ⟨⟨b, rfl, hbb⟩, b1'⟩
           have b1 : Below wr.heap.size wr w1 := (Below.refl _ wr).drew.trans b1'
           have mq0 := keep_cell b1 q0
           have mq1 := keep_cell b1 q1
           have mq2 := keep_cell b1 q2
           have mq3 := keep_cell b1 q3
           have mq4 := keep_cell b1 q4
           have mq5 := keep_cell b1 q5
           have mq6 := keep_cell b1 q6
           have mq7 := keep_cell b1 q7
           have mr0 := keep_cell b1 r0
           have mr1 := keep_cell b1 r1
           have mr2 := keep_cell b1 r2
           have mr3 := keep_cell b1 r3
           have mr4 := keep_cell b1 r4
           have mr5 := keep_cell b1 r5
           have mr6 := keep_cell b1 r6
           have mr7 := keep_cell b1 r7
           have mc7 := keep_cell b1 c7
           have me7 := keep_cell b1 e7)
        | fail)
      have s7 : w.heap.size + 1 < w1.heap.size := Nat.lt_of_lt_of_le hsz b1.size
      have hb1 := hbel.trans (b1.mono hbel.size)
      clear b1 b1' q0 q1 q2 q3 q4 q5 q6 q7 r0 r1 r2 r3 r4 r5 r6 r7 c7 e7 mq0 mq1 mq2 mq3 mq4 mq5 mq6 mq7 mr0 mr1 mr2 mr3 mr4 mr5 mr6 mr7
      cases b with
      | true =>
        have HXY := Lib.hid (HTE.out (hbb.1 rfl))
        clear hbb
        go_wp2_with fail
        go_roundw
        case rel => exact ⟨i + 1, by omega, by go_num, HXY, hb1, s7, mc7, me7⟩
        case measure => simp [intOf]; omega
      | false =>
        have hxy : ¬ x = y := fun e => by have := hbb.2 e; cases this
        have hk : ¬ t.kids = u.kids := fun e => by
          have h1 := HNE.out.1
          rw [e, HNE.out.2] at h1
          exact hxy (Option.some.inj h1).symm
        have HK := Lib.hid hk
        clear hbb hxy hk
        go_wp2_with fail
        go_ret
        exact ⟨⟨false, rfl, ⟨fun h => (by cases h), fun h => absurd h HK.out⟩⟩, hb1⟩
    · have hii : i = t.kids.length := by omega
      subst hii
      have hk : t.kids = u.kids := by
        have := HTK.out
        rw [List.take_length, HLL.out, List.take_length] at this
        exact this
      have HK := Lib.hid hk
      clear hk
      go_wp2_with fail
      go_ret
      exact ⟨⟨true, rfl, ⟨fun _ => HK.out, fun _ => rfl⟩⟩, hbel⟩
theorem rsame_any : ∀ (d : Nat) (t u : Tr), deepT t ≤ d → Wid t → Wid u → ∀ (w : World) (P Q : Nat → Prop) (A B : Option Addr) (ca cb : Nat), KV w P t A → KV w Q u B →
    Calls Tryz.prog 8 #[tv t A ca, tv u B cb] w fun e w' => (∃ b, e = .returned (.bool b) ∧ (b = true ↔ t = u)) ∧ Below w.heap.size w w' := by
  intro d
  induction d with
  | zero => intro t u h; rw [deep_eq] at h; omega
  | succ d ih =>
    intro t u hd ht hu w P Q A B ca cb hA hB
    have NO : ¬ t = u → ∀ {e : Ending} {w' : World}, e = .returned (.bool false) ∧ Below w.heap.size w w' → (∃ b, e = .returned (.bool b) ∧ (b = true ↔ t = u)) ∧ Below w.heap.size w w' :=
      fun hne _ _ ⟨he, hb⟩ => ⟨⟨false, he, ⟨fun h => (by cases h), fun h => absurd h hne⟩⟩, hb⟩
    by_cases h0 : t.kind = u.kind
    · by_cases h1 : t.num = u.num
      · by_cases h2 : t.c1 = u.c1 ∧ t.r1 = u.r1 ∧ t.c2 = u.c2 ∧ t.r2 = u.r2
        · by_cases h3 : t.word = u.word
          · by_cases h4 : t.kids.length = u.kids.length
            · obtain ⟨e1, e2, e3, e4⟩ := h2
              refine (rsame_yes d ih t u hd ht hu w P Q A B ca cb hA hB (by simp [h0]) (by simp [h1]) (by simp [e1, e2, e3, e4]) (by simp [h3]) (by simp [h4])).mono fun e w' ⟨⟨b, he, hb⟩, hw⟩ => ⟨⟨b, he, hb.trans ⟨fun h => tr_ext h0 h1 e1 e2 e3 e4 h3 h, fun h => by rw [h]⟩⟩, hw⟩
            · exact (rsame_no4 t u A B ca cb w (by simp [h0]) (by simp [h1]) (by simp [h2]) (by simp [h3]) (by rw [bne_iff_ne]; omega)).mono fun _ _ h => NO (fun e => h4 (by rw [e])) h
          · exact (rsame_no3 t u A B ca cb w (by simp [h0]) (by simp [h1]) (by simp [h2]) (by simp [h3])).mono fun _ _ h => NO (fun e => h3 (by rw [e])) h
        · exact (rsame_no2 t u A B ca cb w (by simp [h0]) (by simp [h1]) (by rw [Bool.not_eq_true']; rw [Bool.eq_false_iff]; intro h; simp at h; exact h2 ⟨h.1.1, h.1.2, h.2.1, h.2.2⟩)).mono fun _ _ h => NO (fun e => h2 (by rw [e]; simp)) h
      · exact (rsame_no1 t u A B ca cb w (by simp [h0]) (by simp [h1])).mono fun _ _ h => NO (fun e => h1 (by rw [e])) h
    · exact (rsame_no0 t u A B ca cb w (by simp [h0])).mono fun _ _ h => NO (fun e => h0 (by rw [e])) h
end Go.Proofs.YtahdlijkohmdfaaGreatDoor
