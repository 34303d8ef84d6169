/- Texts joined: RtB, RtC, RtD, PrAp, RtE, TrZ, FtA. -/
import Derived.Test.YteflmfifhmlpiaaDoorMa25
import Derived.Deep.RegionHeld3
import Derived.Laws.Concat
import Derived.Test.YteflmfifhmlpiaaDoorMa22
import Derived.Test.YteflmfifhmlpiaaDoorMa09
import Derived.Deep.RegionWith
set_option linter.all false
set_option linter.unusedVariables false
set_option linter.unusedSimpArgs false
namespace Go.Proofs.YteflmfifhmlpiaaDoor
open Go.RowKit

theorem cat_bytes (l m : List UInt8) : ((⟨l.toArray⟩ : ByteArray) ++ ⟨m.toArray⟩) = ⟨(l ++ m).toArray⟩ := ByteArray.mk_append_mk l m
theorem size_bytes (l : List UInt8) : (⟨l.toArray⟩ : ByteArray).size = l.length := by simp [ByteArray.size]
set_option maxHeartbeats 1000000 in
set_option maxRecDepth 10000 in
theorem rtext_num (t : Tr) (hlen : t.kids.length ≤ maxLen) (y : (t.kind == 0) = true) (hn : B64 t.num) (w : World) (A : Option Addr) (ca : Nat) :
    Calls Tryd.prog 43 #[.agg #[.int .i64 t.kind, .int .i64 t.num, .int .i64 t.c1, .int .i64 t.r1, .int .i64 t.c2, .int .i64 t.r2, .string ⟨t.word.toArray⟩, .slice A t.kids.length ca]] w fun e w' => e = .returned (.string ⟨(Lib.itoa t.num).toArray⟩) ∧ Below w.heap.size w w' := by
  have H := Lib.hid (fun w => rtext_any t.num hn w)
  unfold maxLen at hlen
  clear hn
  go_enter Tryd.func43, Tryd.ntmps43
  go_wp2_with fail
  refine Calls.mono (H.out _) ?_; rintro e w1 ⟨rfl, b1⟩
  have h1 : Below w.heap.size w w1 := ((Below.refl _ _).alloc (Nat.le_refl _) _).trans (b1.mono (by simp))
  clear b1
  go_wp2_with fail
  go_ret
  exact ⟨rfl, h1⟩
set_option maxHeartbeats 1000000 in
set_option maxRecDepth 10000 in
theorem rtext_read (t : Tr) (hlen : t.kids.length ≤ maxLen) (n0 : (t.kind == 0) = false) (y : (t.kind == 1) = true) (w : World) (A : Option Addr) (ca : Nat) :
    Calls Tryd.prog 43 #[.agg #[.int .i64 t.kind, .int .i64 t.num, .int .i64 t.c1, .int .i64 t.r1, .int .i64 t.c2, .int .i64 t.r2, .string ⟨t.word.toArray⟩, .slice A t.kids.length ca]] w fun e w' => e = .returned (.string ⟨(placeText t.c1 t.r1).toArray⟩) ∧ Below w.heap.size w w' := by
  have H := Lib.hid (fun w => rtext2_any t.c1 t.r1 w)
  unfold maxLen at hlen
  go_enter Tryd.func43, Tryd.ntmps43
  go_wp2_with fail
  refine Calls.mono (H.out _) ?_; rintro e w1 ⟨rfl, b1⟩
  have h1 : Below w.heap.size w w1 := ((Below.refl _ _).alloc (Nat.le_refl _) _).trans (b1.mono (by simp))
  clear b1
  go_wp2_with fail
  go_ret
  exact ⟨rfl, h1⟩
set_option maxHeartbeats 1000000 in
set_option maxRecDepth 10000 in
theorem rtext_span (t : Tr) (hlen : t.kids.length ≤ maxLen) (n0 : (t.kind == 0) = false) (n1 : (t.kind == 1) = false) (y : (t.kind == 6) = true) (w : World) (A : Option Addr) (ca : Nat) :
    Calls Tryd.prog 43 #[.agg #[.int .i64 t.kind, .int .i64 t.num, .int .i64 t.c1, .int .i64 t.r1, .int .i64 t.c2, .int .i64 t.r2, .string ⟨t.word.toArray⟩, .slice A t.kids.length ca]] w fun e w' => e = .returned (.string (⟨(placeText t.c1 t.r1).toArray⟩ ++ (⟨#[58]⟩ : ByteArray) ++ ⟨(placeText t.c2 t.r2).toArray⟩)) ∧ Below w.heap.size w w' := by
  have H := Lib.hid (fun w => rtext2_any t.c1 t.r1 w)
  have G := Lib.hid (fun w => rtext2_any t.c2 t.r2 w)
  have l1 : (⟨(placeText t.c1 t.r1).toArray⟩ : ByteArray).size ≤ 100 := by rw [size_bytes]; exact place_len _ _
  have l2 : (⟨(placeText t.c2 t.r2).toArray⟩ : ByteArray).size ≤ 100 := by rw [size_bytes]; exact place_len _ _
  generalize (⟨(placeText t.c1 t.r1).toArray⟩ : ByteArray) = S1 at *
  generalize (⟨(placeText t.c2 t.r2).toArray⟩ : ByteArray) = S2 at *
  unfold maxLen at hlen
  have hcA : ∀ w, (Op.stringOp .add S1 ⟨#[58]⟩).run Tryd.prog w = .ok (.string (S1 ++ (⟨#[58]⟩ : ByteArray))) w := fun w => run_string_add_sum w S1 ⟨#[58]⟩ (by have : (⟨#[58]⟩ : ByteArray).size = 1 := rfl; omega)
  have hcB : ∀ w, (Op.stringOp .add (S1 ++ (⟨#[58]⟩ : ByteArray)) S2).run Tryd.prog w = .ok (.string (S1 ++ (⟨#[58]⟩ : ByteArray) ++ S2)) w := fun w => run_string_add_sum w _ S2 (by have : (⟨#[58]⟩ : ByteArray).size = 1 := rfl; rw [ByteArray.size_append]; omega)
  have h0 : Below w.heap.size w (w.alloc (.cells #[.int .i64 t.kind, .int .i64 t.num, .int .i64 t.c1, .int .i64 t.r1, .int .i64 t.c2, .int .i64 t.r2, .string ⟨t.word.toArray⟩, .slice A t.kids.length ca] 29)) := (Below.refl _ _).alloc (Nat.le_refl _) _
  obtain ⟨_, _, a2, a3, a4, a5, _, _⟩ := cells8_of (heap_alloc_new w (.cells #[.int .i64 t.kind, .int .i64 t.num, .int .i64 t.c1, .int .i64 t.r1, .int .i64 t.c2, .int .i64 t.r2, .string ⟨t.word.toArray⟩, .slice A t.kids.length ca] 29))
  go_enter Tryd.func43, Tryd.ntmps43
  go_wp2_with fail
  generalize w.alloc (.cells #[.int .i64 t.kind, .int .i64 t.num, .int .i64 t.c1, .int .i64 t.r1, .int .i64 t.c2, .int .i64 t.r2, .string ⟨t.word.toArray⟩, .slice A t.kids.length ca] 29) = w0 at *
  go_region_held3 (fun w' => w'.cell? ⟨w.heap.size, 2, none⟩ = some (.int .i64 t.c1) ∧ w'.cell? ⟨w.heap.size, 3, none⟩ = some (.int .i64 t.r1) ∧ w'.cell? ⟨w.heap.size, 4, none⟩ = some (.int .i64 t.c2) ∧ w'.cell? ⟨w.heap.size, 5, none⟩ = some (.int .i64 t.r2))
    (first | (simp only [World.cell?_drew]; exact ⟨a2, a3, a4, a5⟩) | exact ⟨e2, e3, e4, e5⟩ | exact ⟨d2, d3, d4, d5⟩ | fail)
    (first
    | (go_at_call 64; have x2 := d2; clear x2; refine Calls.mono (G.out _) ?_; rintro e w2 ⟨rfl, b2⟩
       have e2 := keep_cell b2 d2
       have e3 := keep_cell b2 d3
       have e4 := keep_cell b2 d4
       have e5 := keep_cell b2 d5
       have h2 := h1.trans (b2.mono h1.size)
       clear d2 d3 d4 d5)
    | (go_at_call 64; refine Calls.mono (H.out _) ?_; rintro e w1 ⟨rfl, b1⟩
       have B1 : Below w0.heap.size w0 w1 := (Below.refl _ w0).drew.trans b1
       have d2 := keep_cell B1 a2
       have d3 := keep_cell B1 a3
       have d4 := keep_cell B1 a4
       have d5 := keep_cell B1 a5
       have h1 := h0.trans (B1.mono h0.size)
       clear a2 a3 a4 a5))
  all_goals go_wp2_with fail
  all_goals go_ret
  all_goals exact ⟨rfl, h2⟩
set_option maxHeartbeats 1000000 in
set_option maxRecDepth 10000 in
theorem rtext_bad (t : Tr) (hlen : t.kids.length ≤ maxLen) (y : (t.kind == 2) = true) (n0 : (t.kind == 0) = false) (n1 : (t.kind == 1) = false) (n6 : (t.kind == 6) = false) (n3 : (t.kind == 3) = false) (n4 : (t.kind == 4) = false) (n5 : (t.kind == 5) = false) (w : World) (A : Option Addr) (ca : Nat) :
    Calls Tryd.prog 43 #[.agg #[.int .i64 t.kind, .int .i64 t.num, .int .i64 t.c1, .int .i64 t.r1, .int .i64 t.c2, .int .i64 t.r2, .string ⟨t.word.toArray⟩, .slice A t.kids.length ca]] w fun e w' => e = .returned (.string ⟨[35, 82, 69, 70].toArray⟩) ∧ Below w.heap.size w w' := by
  unfold maxLen at hlen
  go_enter Tryd.func43, Tryd.ntmps43
  go_wp2_with fail
  go_ret
  exact ⟨rfl, (Below.refl _ _).alloc (Nat.le_refl _) _⟩
set_option maxHeartbeats 1000000 in
set_option maxRecDepth 10000 in
theorem rtext_neg (t : Tr) (hlen : t.kids.length ≤ maxLen) (hk : t.kids.length = 1) (n0 : (t.kind == 0) = false) (n1 : (t.kind == 1) = false) (n6 : (t.kind == 6) = false) (y : (t.kind == 3) = true) (w : World) (g o ca : Nat) {u : Tr} {A' : Option Addr} {c' : Nat} (h8 : At8 w g o u A' c') {s : List UInt8} (hs : s.length ≤ 140737488355328)
    (hP : ∀ w1, Below w.heap.size w w1 → Calls Tryd.prog 65 #[.agg #[.int .i64 u.kind, .int .i64 u.num, .int .i64 u.c1, .int .i64 u.r1, .int .i64 u.c2, .int .i64 u.r2, .string ⟨u.word.toArray⟩, .slice A' u.kids.length c'], .int .i64 4] w1 fun e w' => e = .returned (.string ⟨s.toArray⟩) ∧ Below w1.heap.size w1 w') :
    Calls Tryd.prog 43 #[.agg #[.int .i64 t.kind, .int .i64 t.num, .int .i64 t.c1, .int .i64 t.r1, .int .i64 t.c2, .int .i64 t.r2, .string ⟨t.word.toArray⟩, .slice (some ⟨g, o, none⟩) t.kids.length ca]] w fun e w' => e = .returned (.string ((⟨#[45]⟩ : ByteArray) ++ ⟨s.toArray⟩)) ∧ Below w.heap.size w w' := by
  have h0 : ∀ ob, Below w.heap.size w (w.alloc ob) := fun ob => (Below.refl _ _).alloc (Nat.le_refl _) ob
  have H := Lib.hid (fun ob => hP (w.alloc ob) (h0 ob))
  have H8 := Lib.hid (fun ob => h8.kept (P := fun _ => True) (Kept.of_below (h0 ob)) trivial)
  rw [hk]
  have hsz : (⟨s.toArray⟩ : ByteArray).size ≤ 140737488355328 := by rw [size_bytes]; exact hs
  generalize (⟨s.toArray⟩ : ByteArray) = S at *
  clear hP h8 h0 hk hs
  obtain ⟨q0, q1, q2, q3, q4, q5, q6, q7⟩ := H8.out (.cells #[.int .i64 t.kind, .int .i64 t.num, .int .i64 t.c1, .int .i64 t.r1, .int .i64 t.c2, .int .i64 t.r2, .string ⟨t.word.toArray⟩, .slice (some ⟨g, o, none⟩) 1 ca] 29)
  go_enter Tryd.func43, Tryd.ntmps43
  go_wp2_with fail
  refine Calls.mono (H.out _) ?_; rintro e w1 ⟨rfl, b1⟩
  have h1 : Below w.heap.size w w1 := ((Below.refl _ _).alloc (Nat.le_refl _) _).trans (b1.mono (by simp))
  clear b1
  go_wp2_with fail
  go_ret
  exact ⟨rfl, h1⟩
end Go.Proofs.YteflmfifhmlpiaaDoor
namespace Go.Proofs.YteflmfifhmlpiaaDoor
open Go.RowKit

set_option maxHeartbeats 2000000 in
set_option maxRecDepth 10000 in
theorem rtext_op (t : Tr) (hlen : t.kids.length ≤ maxLen) (hk : t.kids.length = 2) (n0 : (t.kind == 0) = false) (n1 : (t.kind == 1) = false) (n6 : (t.kind == 6) = false) (n3 : (t.kind == 3) = false) (y : (t.kind == 4) = true) (w : World) (g o ca : Nat) {u v : Tr} {A' B' : Option Addr} {c' d' : Nat} (h8 : At8 w g o u A' c') (k8 : At8 w g (o + 8) v B' d') {s1 s2 : List UInt8} (hs : (s1 ++ (t.word ++ s2)).length ≤ 140737488355328)
    (hP : ∀ w1, Below w.heap.size w w1 → Calls Tryd.prog 65 #[.agg #[.int .i64 u.kind, .int .i64 u.num, .int .i64 u.c1, .int .i64 u.r1, .int .i64 u.c2, .int .i64 u.r2, .string ⟨u.word.toArray⟩, .slice A' u.kids.length c'], .int .i64 (lvl t.word : Int)] w1 fun e w' => e = .returned (.string ⟨s1.toArray⟩) ∧ Below w1.heap.size w1 w')
    (hQ : ∀ w1, Below w.heap.size w w1 → Calls Tryd.prog 65 #[.agg #[.int .i64 v.kind, .int .i64 v.num, .int .i64 v.c1, .int .i64 v.r1, .int .i64 v.c2, .int .i64 v.r2, .string ⟨v.word.toArray⟩, .slice B' v.kids.length d'], .int .i64 ((lvl t.word : Int) + 1)] w1 fun e w' => e = .returned (.string ⟨s2.toArray⟩) ∧ Below w1.heap.size w1 w') :
    Calls Tryd.prog 43 #[.agg #[.int .i64 t.kind, .int .i64 t.num, .int .i64 t.c1, .int .i64 t.r1, .int .i64 t.c2, .int .i64 t.r2, .string ⟨t.word.toArray⟩, .slice (some ⟨g, o, none⟩) t.kids.length ca]] w fun e w' => e = .returned (.string ((⟨s1.toArray⟩ : ByteArray) ++ ⟨t.word.toArray⟩ ++ ⟨s2.toArray⟩)) ∧ Below w.heap.size w w' := by
  have h0 : Below w.heap.size w (w.alloc (.cells #[.int .i64 t.kind, .int .i64 t.num, .int .i64 t.c1, .int .i64 t.r1, .int .i64 t.c2, .int .i64 t.r2, .string ⟨t.word.toArray⟩, .slice (some ⟨g, o, none⟩) 2 ca] 29)) := (Below.refl _ _).alloc (Nat.le_refl _) _
  have H0 := Lib.hid h0
  have HP := Lib.hid hP
  have HQ := Lib.hid hQ
  have HL := Lib.hid (fun w => rLevel_any ⟨t.word.toArray⟩ w)
  have hw : (⟨t.word.toArray⟩ : ByteArray).data.toList = t.word := by simp
  rw [hw] at HL
  have hlv := lvl_le t.word
  have H8 := Lib.hid (h8.kept (P := fun _ => True) (Kept.of_below h0) trivial)
  have K8 := Lib.hid (k8.kept (P := fun _ => True) (Kept.of_below h0) trivial)
  rw [hk]
  have z1 : (⟨s1.toArray⟩ : ByteArray).size ≤ 140737488355328 := by rw [size_bytes]; simp at hs; omega
  have z2 : (⟨s2.toArray⟩ : ByteArray).size ≤ 140737488355328 := by rw [size_bytes]; simp at hs; omega
  have z3 : (⟨t.word.toArray⟩ : ByteArray).size ≤ 140737488355328 := by rw [size_bytes]; simp at hs; omega
  have hlb : (lvl t.word : Int) ≤ 3 := by omega
  have hla : (0 : Int) ≤ (lvl t.word : Int) := by omega
  generalize (lvl t.word : Int) = lv at *
  generalize (⟨s1.toArray⟩ : ByteArray) = S1 at *
  generalize (⟨s2.toArray⟩ : ByteArray) = S2 at *
  generalize (⟨t.word.toArray⟩ : ByteArray) = W at *
  clear hP hQ h8 k8 hk hs hw hlv h0
  go_enter Tryd.func43, Tryd.ntmps43
  go_wp2_with fail
  refine Calls.mono (HL.out _) ?_; rintro e w9 ⟨rfl, rfl⟩
  obtain ⟨q0, q1, q2, q3, q4, q5, q6, q7⟩ := H8.out
  go_wp2_with fail
  refine Calls.mono (HP.out _ H0.out) ?_; rintro e w1 ⟨rfl, b1⟩
  have H1 := Lib.hid (H0.out.trans (b1.mono H0.out.size))
  have K1 := Lib.hid (K8.out.kept (P := fun _ => True) (Kept.of_below b1) trivial)
  have k16 := keep_fresh b1 6 (v := .string W) rfl
  have k17 := keep_fresh b1 7 (v := .slice (some ⟨g, o, none⟩) 2 ca) rfl
  clear b1 q0 q1 q2 q3 q4 q5 q6 q7
  obtain ⟨q0, q1, q2, q3, q4, q5, q6, q7⟩ := K1.out
  go_wp2_with fail
  refine Calls.mono (HQ.out _ H1.out) ?_; rintro e w2 ⟨rfl, b2⟩
  have H2 := Lib.hid (H1.out.trans (b2.mono H1.out.size))
  have k26 := keep_cell b2 k16
  clear b2 q0 q1 q2 q3 q4 q5 q6 q7 k16 k17
  go_wp2_with fail
  go_ret
  exact ⟨rfl, H2.out⟩
end Go.Proofs.YteflmfifhmlpiaaDoor
namespace Go.Proofs.YteflmfifhmlpiaaDoor
open Go.RowKit

def txB : List (List UInt8) → List UInt8
  | [] => []
  | s :: r => s ++ txK r
theorem txH_txB : ∀ (l : List (List UInt8)), l ≠ [] → txH l = 40 :: txB l
  | [], h => absurd rfl h
  | _ :: _, _ => rfl
theorem txB_take_le (ks : List Tr) (i : Nat) : (txB (txL (ks.take i))).length ≤ (txB (txL ks)).length := by
  cases hk : ks.take i with
  | nil => rw [txL_nil]; simp [txB]
  | cons u r =>
    have h := txH_take_le ks i
    rw [hk, txH_txB _ (by rw [txL_cons]; simp)] at h
    cases ks with
    | nil => simp at hk
    | cons v q =>
      rw [txH_txB (txL (v :: q)) (by rw [txL_cons]; simp)] at h
      simpa using h
theorem txB_take {ks : List Tr} {i : Nat} {u : Tr} (h : ks[i]? = some u) : txB (txL (ks.take (i + 1))) = if i = 0 then txT u else txB (txL (ks.take i)) ++ 44 :: txT u := by
  have hl : (ks.take i).length = i := by have := (List.getElem?_eq_some_iff.1 h).1; simp; omega
  have hh := txH_take h
  have hne : txL (ks.take (i + 1)) ≠ [] := by
    rw [txL_map]
    intro e
    have e2 : (List.map txT (ks.take (i + 1))).length = 0 := by rw [e]; rfl
    have h3 := (List.getElem?_eq_some_iff.1 h).1
    rw [List.length_map, List.length_take] at e2
    omega
  rw [txH_txB _ hne] at hh
  by_cases h0 : i = 0
  · subst h0
    rw [if_pos rfl]
    rw [List.take_zero, txL_nil] at hh
    simpa [txH, mkB] using hh
  · rw [if_neg h0]
    have hne2 : txL (ks.take i) ≠ [] := by
      rw [txL_map]
      intro e
      have e2 : (List.map txT (ks.take i)).length = 0 := by rw [e]; rfl
      rw [List.length_map, hl] at e2
      omega
    rw [txH_txB _ hne2] at hh
    simp only [List.cons_append, List.cons.injEq, true_and] at hh
    rw [hh]; simp [mkB, h0]
def accT (t : Tr) (i : Nat) : ByteArray := ⟨(t.word ++ 40 :: txB (txL (t.kids.take i))).toArray⟩
theorem accT_zero (t : Tr) : accT t 0 = (⟨t.word.toArray⟩ : ByteArray) ++ (⟨#[40]⟩ : ByteArray) := by
  unfold accT
  rw [List.take_zero, txL_nil]
  exact (cat_bytes t.word [40]).symm
theorem accT_one {t u : Tr} (h : t.kids[0]? = some u) : accT t (0 + 1) = accT t 0 ++ ⟨(txT u).toArray⟩ := by
  unfold accT
  rw [txB_take h, if_pos rfl, cat_bytes, List.take_zero, txL_nil]
  simp [txB]
theorem accT_succ {t u : Tr} {i : Nat} (h : t.kids[i]? = some u) (h0 : i ≠ 0) : accT t (i + 1) = accT t i ++ (⟨#[44]⟩ : ByteArray) ++ ⟨(txT u).toArray⟩ := by
  unfold accT
  rw [txB_take h, if_neg h0]
  rw [show (⟨#[44]⟩ : ByteArray) = ⟨([44] : List UInt8).toArray⟩ from rfl, cat_bytes, cat_bytes]
  simp
theorem accT_size (t : Tr) (i : Nat) : (accT t i).size ≤ t.word.length + 1 + (txB (txL t.kids)).length := by
  unfold accT
  rw [size_bytes]
  have := txB_take_le t.kids i
  simp; omega
theorem kid_size {ks : List Tr} {i : Nat} {u : Tr} (h : ks[i]? = some u) : (txT u).length ≤ (txB (txL ks)).length := by
  have h1 := txB_take_le ks (i + 1)
  rw [txB_take h] at h1
  split at h1
  · exact h1
  · simp at h1; omega
set_option maxHeartbeats 2000000 in
set_option maxRecDepth 10000 in
theorem rtext_call (t : Tr) (hlen : t.kids.length ≤ maxLen) (n0 : (t.kind == 0) = false) (n1 : (t.kind == 1) = false) (n6 : (t.kind == 6) = false) (n3 : (t.kind == 3) = false) (n4 : (t.kind == 4) = false) (y : (t.kind == 5) = true) (w : World) (A : Option Addr) (ca : Nat) (hA : KV w (fun _ => True) t A) (hs : t.word.length + 2 + (txB (txL t.kids)).length ≤ 140737488355328) (ih : ∀ u ∈ t.kids, TextC u) :
    Calls Tryd.prog 43 #[.agg #[.int .i64 t.kind, .int .i64 t.num, .int .i64 t.c1, .int .i64 t.r1, .int .i64 t.c2, .int .i64 t.r2, .string ⟨t.word.toArray⟩, .slice A t.kids.length ca]] w fun e w' => e = .returned (.string (accT t t.kids.length ++ (⟨#[41]⟩ : ByteArray))) ∧ Below w.heap.size w w' := by
  have h0 : Below w.heap.size w (w.alloc (.cells #[.int .i64 t.kind, .int .i64 t.num, .int .i64 t.c1, .int .i64 t.r1, .int .i64 t.c2, .int .i64 t.r2, .string ⟨t.word.toArray⟩, .slice A t.kids.length ca] 29)) := (Below.refl _ _).alloc (Nat.le_refl _) _
  have H0 := Lib.hid h0
  have k07 := (cells8_of (heap_alloc_new w (.cells #[.int .i64 t.kind, .int .i64 t.num, .int .i64 t.c1, .int .i64 t.r1, .int .i64 t.c2, .int .i64 t.r2, .string ⟨t.word.toArray⟩, .slice A t.kids.length ca] 29))).2.2.2.2.2.2.2
  have HA := Lib.hid hA
  have HI := Lib.hid ih
  have HS := Lib.hid (fun i => accT_size t i)
  have HB := Lib.hid hs
  have HZ := Lib.hid (accT_zero t)
  have hw2 : (⟨t.word.toArray⟩ : ByteArray).size ≤ 140737488355328 := by rw [size_bytes]; omega
  unfold maxLen at hlen
  generalize (⟨t.word.toArray⟩ : ByteArray) = W at *
  clear hA ih hs h0
  go_enter Tryd.func43, Tryd.ntmps43
  go_wp2_with fail
  go_loopw [6, 7] (fun vs vi wr => ∃ i : Nat, i ≤ t.kids.length ∧ vs = .string (accT t i) ∧ vi = .int .i64 (i : Int) ∧ Hid (Below w.heap.size w wr) ∧ wr.cell? ⟨w.heap.size, 7, none⟩ = some (.slice A t.kids.length ca)) (fun _ vi _ => t.kids.length - (intOf vi).toNat)
  case atStart => exact ⟨0, Nat.zero_le _, by rw [HZ.out], rfl, H0, k07⟩
  case round =>
    obtain ⟨i, hi, rfl, rfl, Hr, k7⟩ := hrel
    clear k07 H0 HZ
    have hz := HS.out i
    have hbb := HB.out
    have hzz : (accT t i).size ≤ 140737488355328 := by omega
    by_cases hlt : i < t.kids.length
    · have ha : t.kids[i]? = some (t.kids[i]'hlt) := List.getElem?_eq_getElem hlt
      obtain ⟨g, o, rfl⟩ := HA.out.addr ha
      obtain ⟨_, hg, A', c', h8, hkv⟩ := HA.out.kid ha
      rw [Nat.mul_comm] at h8
      have hks := kid_size ha
      have HT := Lib.hid (HI.out _ (List.getElem_mem hlt) (by omega) wr A' c' (hkv.kept (Kept.of_below Hr.out)))
      have q8 := h8.kept (P := fun _ => True) (Kept.of_below Hr.out) trivial
      have hus : (⟨(txT (t.kids[i]'hlt)).toArray⟩ : ByteArray).size ≤ 140737488355328 := by rw [size_bytes]; omega
      have HC : Hid (accT t (i + 1) = if i = 0 then accT t i ++ ⟨(txT (t.kids[i]'hlt)).toArray⟩ else accT t i ++ (⟨#[44]⟩ : ByteArray) ++ ⟨(txT (t.kids[i]'hlt)).toArray⟩) := Lib.hid (by
        by_cases h0 : i = 0
        · subst h0; rw [if_pos rfl]; exact accT_one ha
        · rw [if_neg h0]; exact accT_succ ha h0)
      generalize (⟨(txT (t.kids[i]'hlt)).toArray⟩ : ByteArray) = S at *
      generalize t.kids[i]'hlt = u at *
      obtain ⟨q0, q1, q2, q3, q4, q5, q6, q7⟩ := q8
      clear ha h8 hkv hks hz hbb
      by_cases h0 : i = 0
      · have HC2 := HC.out
        rw [if_pos h0] at HC2
        have HC3 := Lib.hid HC2
        clear HC HC2
        subst h0
        rw [Nat.zero_mul, Nat.add_zero] at q0 q1 q2 q3 q4 q5 q6 q7
        have hc0 : decide ((0 : Int) < ((0 : Nat) : Int)) = false := by decide
        go_wp2_with fail
        refine Calls.mono HT.out ?_; rintro e w2 ⟨rfl, b2⟩
        have H2 := Lib.hid (Hr.out.trans (b2.mono Hr.out.size))
        have k27 := keep_cell b2 k7
        clear b2 q0 q1 q2 q3 q4 q5 q6 q7 k7
        go_wp2_with fail
        go_roundw
        case rel => exact ⟨0 + 1, by omega, by rw [HC3.out], by go_num, H2, k27⟩
        case measure => simp [intOf]; omega
      · have HC2 := HC.out
        rw [if_neg h0] at HC2
        have HC3 := Lib.hid HC2
        clear HC HC2
        have hc0 : decide ((0 : Int) < (i : Int)) = true := decide_eq_true (by omega)
        go_wp2_with fail
        refine Calls.mono HT.out ?_; rintro e w2 ⟨rfl, b2⟩
        have H2 := Lib.hid (Hr.out.trans (b2.mono Hr.out.size))
        have k27 := keep_cell b2 k7
        clear b2 q0 q1 q2 q3 q4 q5 q6 q7 k7
        go_wp2_with fail
        go_roundw
        case rel => exact ⟨i + 1, by omega, by rw [HC3.out], by go_num, H2, k27⟩
        case measure => simp [intOf]; omega
    · have hii : i = t.kids.length := by omega
      subst hii
      go_wp2_with fail
      go_ret
      exact ⟨rfl, Hr.out⟩
end Go.Proofs.YteflmfifhmlpiaaDoor
namespace Go.Proofs.YteflmfifhmlpiaaDoor
open Go.RowKit

theorem right_iff (t : Tr) : rightP t = true ↔ t.kind ≠ 6 ∧ deepT t ≤ 16 ∧ mayB t = true := by
  unfold rightP
  rw [Bool.and_eq_true, fit_may, bne_iff_ne]
def printP (t : Tr) : List UInt8 := if rightP t = true then txT t else []
theorem fit_two {a b : Tr} {w : List UInt8} (ha : Fit a) (hb : Fit b) : Fit (opT w a b) := .mk (by decide) (by
  intro t h
  simp only [List.mem_cons, List.not_mem_nil, or_false] at h
  rcases h with h | h
  · rw [h]; exact ha
  · rw [h]; exact hb)
theorem fit_three {a b c : Tr} {w : List UInt8} (ha : Fit a) (hb : Fit b) (hc : Fit c) : Fit (callT w [a, b, c]) := .mk (by decide) (by
  intro t h
  simp only [List.mem_cons, List.not_mem_nil, or_false] at h
  rcases h with h | h | h
  · rw [h]; exact ha
  · rw [h]; exact hb
  · rw [h]; exact hc)
theorem fit_one {n k c r d s : Int} {w : List UInt8} {a : Tr} (hn : n ≤ 9223372036854775807) (ha : Fit a) : Fit (.mk k n c r d s w [a]) := .mk hn (by
  intro t h
  rw [List.mem_singleton.1 h]; exact ha)
theorem fit_leaf {n k c r d s : Int} {w : List UInt8} (hn : n ≤ 9223372036854775807) : Fit (.mk k n c r d s w []) := .mk hn (by intro t h; cases h)
theorem pr_fit {md : Mode} {t : Tr} {s : List UInt8} {ts : List Tok} (h : Pr md t s ts) : Fit t := by
  induction h with
  | @num n hn => exact fit_leaf (by omega)
  | read _ => exact fit_leaf (by decide)
  | bad => exact fit_leaf (by decide)
  | neg _ ih => exact fit_one (by decide) ih
  | op _ _ _ iha ihb => exact fit_two iha ihb
  | plain _ _ ih => exact ih
  | brk _ _ _ ih => exact ih
  | cif _ _ _ iha ihb ihc => exact fit_three iha ihb ihc
  | call _ _ ih => cases ih with | mk _ h => exact .mk (by decide) h
  | itT _ ih => exact ih
  | itBad => exact fit_leaf (by decide)
  | itSpan _ _ _ _ => exact fit_leaf (by decide)
  | last _ ih => exact fit_one (by decide) ih
  | @more k t ks s s' ts ts' _ _ ih ih' =>
    cases ih' with
    | mk _ h' =>
      refine .mk (by decide) ?_
      intro u hu
      rcases List.mem_cons.1 hu with e | hu
      · rw [e]; exact ih
      · exact h' u hu
end Go.Proofs.YteflmfifhmlpiaaDoor
namespace Go.Proofs.YteflmfifhmlpiaaDoor
open Go.RowKit

theorem text_level (t : Tr) (hW : Wid t) (hF : Fit t) (hM : mayB t = true) (ih : ∀ u ∈ t.kids, TextC u) : TextC t := by
  intro hl w A ca hA
  have hlen := hW.len
  obtain ⟨hsp, hso, _⟩ := (may_level t).1 hM
  by_cases h0 : t.kind = 0
  · have hn : 0 ≤ t.num ∧ t.num ≤ 9223372036854775807 := by
      cases hF with
      | @mk k n c r d s w ks hn _ =>
        obtain rfl : k = 0 := h0
        refine ⟨?_, hn⟩
        have : soundB (.mk 0 n c r d s w ks) = decide (0 ≤ n) := rfl
        exact of_decide_eq_true (this.symm.trans hso)
    have e : txT t = Lib.itoa t.num := by
      cases t with
      | mk k n c r d s w ks =>
        obtain rfl : k = 0 := h0
        rw [txT, if_pos rfl]
        obtain ⟨m, rfl⟩ := Int.eq_ofNat_of_zero_le hn.1
        exact (Lib.itoa_nonneg m).symm
    rw [e]
    exact rtext_num t hlen (by rw [h0]; rfl) (by unfold B64; omega) w A ca
  have n0 : (t.kind == 0) = false := by simpa using h0
  by_cases h1 : t.kind = 1
  · have e : txT t = placeText t.c1 t.r1 := by
      cases t with
      | mk k n c r d s w ks =>
        obtain rfl : k = 1 := h1
        rw [txT, if_neg (by decide), if_pos rfl]
        rfl
    rw [e]
    exact rtext_read t hlen n0 (by rw [h1]; rfl) w A ca
  have n1 : (t.kind == 1) = false := by simpa using h1
  by_cases h2 : t.kind = 2
  · have e : txT t = [35, 82, 69, 70] := by
      cases t with
      | mk k n c r d s w ks =>
        obtain rfl : k = 2 := h2
        rw [txT, if_neg (by decide), if_neg (by decide), if_neg (by decide), if_neg (by decide), if_neg (by decide), if_neg (by decide)]
    rw [e]
    exact rtext_bad t hlen (by rw [h2]; rfl) n0 n1 (by rw [h2]; rfl) (by rw [h2]; rfl) (by rw [h2]; rfl) (by rw [h2]; rfl) w A ca
  have n2 : (t.kind == 2) = false := by simpa using h2
  by_cases h3 : t.kind = 3
  · have hks : t.kids.length = 1 := by
      cases t with
      | mk k n c r d s w ks =>
        obtain rfl : k = 3 := h3
        have : soundB (.mk 3 n c r d s w ks) = exprsB ks 1 := rfl
        rw [this] at hso
        unfold exprsB at hso
        simp at hso
        exact hso.1
    obtain ⟨u, hu⟩ := one_elem hks
    have hi : t.kids[0]? = some u := by rw [hu]; rfl
    obtain ⟨g, o, rfl⟩ := hA.addr hi
    obtain ⟨_, _, A', c', h8, hkv⟩ := hA.kid hi
    have e : txT t = 45 :: txW 4 u (txT u) := by
      cases t with
      | mk k n c r d s w ks =>
        obtain rfl : k = 3 := h3
        obtain rfl : ks = [u] := hu
        rw [txT, if_neg (by decide), if_neg (by decide), if_neg (by decide), if_pos rfl, txL_cons]
        rfl
    have hl2 := hl
    rw [e] at hl2 ⊢
    have hu4 : (txT u).length ≤ (txW 4 u (txT u)).length := by unfold txW; split <;> simp <;> omega
    simp only [List.length_cons] at hl2
    have h := rtext_neg t hlen hks n0 n1 (by rw [h3]; rfl) (by rw [h3]; rfl) w g o ca (by simpa using h8) (s := txW 4 u (txT u)) (by omega) (fun w1 hb => rwithin_any u (ih u (by rw [hu]; simp)) (hW.kid hi).len (by omega) 4 w1 A' c' (hkv.kept (Kept.of_below hb)))
    rw [show (⟨#[45]⟩ : ByteArray) = ⟨([45] : List UInt8).toArray⟩ from rfl, cat_bytes] at h
    exact h
  have n3 : (t.kind == 3) = false := by simpa using h3
  by_cases h4 : t.kind = 4
  · have hks : t.kids.length = 2 := by
      cases t with
      | mk k n c r d s w ks =>
        obtain rfl : k = 4 := h4
        have : soundB (.mk 4 n c r d s w ks) = (decide (0 ≤ (lvl w : Int) - 1) && exprsB ks 2) := rfl
        rw [this] at hso
        unfold exprsB at hso
        simp at hso
        exact hso.2.1
    obtain ⟨u, v, hu⟩ := two_of hks
    have hi : t.kids[0]? = some u := by rw [hu]; rfl
    have hj : t.kids[1]? = some v := by rw [hu]; rfl
    obtain ⟨g, o, rfl⟩ := hA.addr hi
    obtain ⟨_, _, A', c', h8, hkv⟩ := hA.kid hi
    obtain ⟨_, _, B', d', k8, hkv2⟩ := hA.kid hj
    have e : txT t = txW (lvl t.word) u (txT u) ++ (t.word ++ txW (lvl t.word + 1) v (txT v)) := by
      cases t with
      | mk k n c r d s w ks =>
        obtain rfl : k = 4 := h4
        obtain rfl : ks = [u, v] := hu
        rw [txT, if_neg (by decide), if_neg (by decide), if_neg (by decide), if_neg (by decide), if_pos rfl, txL_cons, txL_cons]
        rfl
    have hl2 := hl
    rw [e] at hl2 ⊢
    have hua : (txT u).length ≤ (txW (lvl t.word) u (txT u)).length := by unfold txW; split <;> simp <;> omega
    have hva : (txT v).length ≤ (txW (lvl t.word + 1) v (txT v)).length := by unfold txW; split <;> simp <;> omega
    have hl3 := hl2
    simp only [List.length_append] at hl3
    have h := rtext_op t hlen hks n0 n1 (by rw [h4]; rfl) n3 (by rw [h4]; rfl) w g o ca (by simpa using h8) (by simpa using k8) (s1 := txW (lvl t.word) u (txT u)) (s2 := txW (lvl t.word + 1) v (txT v)) hl2 (fun w1 hb => rwithin_any u (ih u (by rw [hu]; simp)) (hW.kid hi).len (by omega) (lvl t.word) w1 A' c' (hkv.kept (Kept.of_below hb))) (fun w1 hb => rwithin_any v (ih v (by rw [hu]; simp)) (hW.kid hj).len (by omega) (lvl t.word + 1) w1 B' d' (hkv2.kept (Kept.of_below hb)))
    rw [cat_bytes, cat_bytes, List.append_assoc] at h
    exact h
  have n4 : (t.kind == 4) = false := by simpa using h4
  by_cases h5 : t.kind = 5
  · have hne : t.kids ≠ [] := by
      cases t with
      | mk k n c r d s w ks =>
        obtain rfl : k = 5 := h5
        rintro (rfl : ks = [])
        have : soundB (.mk 5 n c r d s w []) = calledB w [] := rfl
        rw [this] at hso
        unfold calledB exprsB at hso
        simp at hso
    have hne2 : txL t.kids ≠ [] := by rw [txL_map]; simpa using hne
    have e : txT t = t.word ++ 40 :: (txB (txL t.kids) ++ [41]) := by
      have e2 : 40 :: (txB (txL t.kids) ++ [41]) = 40 :: txJ (txL t.kids) := by rw [← txH_all _ hne2, txH_txB _ hne2]; rfl
      rw [e2]
      cases t with
      | mk k n c r d s w ks =>
        obtain rfl : k = 5 := h5
        rw [txT, if_neg (by decide), if_neg (by decide), if_neg (by decide), if_neg (by decide), if_neg (by decide), if_pos rfl]
        rfl
    have hl2 := hl
    rw [e] at hl2 ⊢
    simp only [List.length_append, List.length_cons, List.length_nil] at hl2
    have h := rtext_call t hlen n0 n1 (by rw [h5]; rfl) n3 n4 (by rw [h5]; rfl) w A ca hA (by omega) ih
    have e3 : accT t t.kids.length ++ (⟨#[41]⟩ : ByteArray) = ⟨(t.word ++ 40 :: (txB (txL t.kids) ++ [41])).toArray⟩ := by
      unfold accT
      rw [List.take_length, show (⟨#[41]⟩ : ByteArray) = ⟨([41] : List UInt8).toArray⟩ from rfl, cat_bytes]
      simp
    rw [e3] at h
    exact h
  have n5 : (t.kind == 5) = false := by simpa using h5
  by_cases h6 : t.kind = 6
  · have e : txT t = placeText t.c1 t.r1 ++ 58 :: placeText t.c2 t.r2 := by
      cases t with
      | mk k n c r d s w ks =>
        obtain rfl : k = 6 := h6
        rw [txT, if_neg (by decide), if_neg (by decide), if_pos rfl]
        rfl
    rw [e]
    have h := rtext_span t hlen n0 n1 (by rw [h6]; rfl) w A ca
    rw [show (⟨#[58]⟩ : ByteArray) = ⟨([58] : List UInt8).toArray⟩ from rfl, cat_bytes, cat_bytes, List.append_assoc] at h
    exact h
  · exfalso
    cases t with
    | mk k n c r d s w ks =>
      have : soundB (.mk k n c r d s w ks) = (if k = 0 then decide (0 ≤ n) else if k = 1 then rightB c r && (c == d && r == s) else if k = 2 then true
  else if k = 3 then exprsB ks 1 else if k = 4 then decide (0 ≤ (lvl w : Int) - 1) && exprsB ks 2 else if k = 5 then calledB w ks
  else if k = 6 then wholeB c r d s else false) := rfl
      change ¬ k = 0 at h0
      change ¬ k = 1 at h1
      change ¬ k = 2 at h2
      change ¬ k = 3 at h3
      change ¬ k = 4 at h4
      change ¬ k = 5 at h5
      change ¬ k = 6 at h6
      rw [this, if_neg h0, if_neg h1, if_neg h2, if_neg h3, if_neg h4, if_neg h5, if_neg h6] at hso
      cases hso
theorem text_any : ∀ {t : Tr}, Wid t → Fit t → mayB t = true → TextC t := by
  intro t hW
  induction hW with
  | @mk k n c r d s w ks hl hk ih =>
    intro hF hM
    refine text_level _ (.mk hl hk) hF hM fun u hu => ih u hu ?_ ?_
    · cases hF with
      | mk _ h => exact h u hu
    · exact ((may_level _).1 hM).2.2 u hu
theorem right_same (t : Tr) : rightT t = rightP t := by
  rw [Bool.eq_iff_iff, right_iff]
  unfold rightT
  simp only [Bool.and_eq_true, decide_eq_true_eq, bne_iff_ne]
  exact ⟨fun h => ⟨h.2.1, h.1, h.2.2⟩, fun h => ⟨h.2.1, h.1, h.2.2⟩⟩
set_option maxHeartbeats 1000000 in
set_option maxRecDepth 10000 in
theorem rprint_no (t : Tr) (ht : Wid t) (hd : deepT t ≤ 1000000000) (hr : rightP t = false) (w : World) (A : Option Addr) (ca : Nat) (hA : KV w (fun _ => True) t A) :
    Calls Tryd.prog 24 #[tv t A ca] w fun e w' => e = .returned (.string ⟨#[]⟩) ∧ Below w.heap.size w w' := by
  have h0 : ∀ ob, Below w.heap.size w (w.alloc ob) := fun ob => (Below.refl _ _).alloc (Nat.le_refl _) ob
  have H := Lib.hid (fun ob => rRight_any t hd ht (w.alloc ob) _ A ca (hA.kept (Kept.of_below (h0 ob))))
  rw [right_same, hr] at H
  have hlen := ht.len
  unfold maxLen at hlen
  unfold tv at *
  clear hA hr ht h0 hd
  go_enter Tryd.func24, Tryd.ntmps24
  go_wp2_with fail
  refine (H.out _).mono ?_; rintro e w1 ⟨rfl, b1⟩
  have h1 : Below w.heap.size w w1 := ((Below.refl _ _).alloc (Nat.le_refl _) _).trans (b1.mono (by simp))
  clear b1
  go_wp2_with fail
  go_ret
  exact ⟨rfl, h1⟩
set_option maxHeartbeats 1000000 in
set_option maxRecDepth 10000 in
theorem rprint_yes (t : Tr) (ht : Wid t) (hf : Fit t) (hd : deepT t ≤ 1000000000) (hr : rightP t = true) (hl : (txT t).length ≤ 140737488355328) (w : World) (A : Option Addr) (ca : Nat) (hA : KV w (fun _ => True) t A) :
    Calls Tryd.prog 24 #[tv t A ca] w fun e w' => e = .returned (.string ⟨(txT t).toArray⟩) ∧ Below w.heap.size w w' := by
  have h0 : ∀ ob, Below w.heap.size w (w.alloc ob) := fun ob => (Below.refl _ _).alloc (Nat.le_refl _) ob
  have H := Lib.hid (fun ob => rRight_any t hd ht (w.alloc ob) _ A ca (hA.kept (Kept.of_below (h0 ob))))
  have HT := Lib.hid (fun w1 (hb : Below w.heap.size w w1) => text_any ht hf ((right_iff t).1 hr).2.2 hl w1 A ca (hA.kept (Kept.of_below hb)))
  rw [right_same, hr] at H
  have hlen := ht.len
  unfold maxLen at hlen
  unfold tv at *
  clear hA hr ht h0 hd hf hl
  go_enter Tryd.func24, Tryd.ntmps24
  go_wp2_with fail
  refine (H.out _).mono ?_; rintro e w1 ⟨rfl, b1⟩
  have k10 := keep_fresh b1 0 (v := .int .i64 t.kind) rfl
  have k11 := keep_fresh b1 1 (v := .int .i64 t.num) rfl
  have k12 := keep_fresh b1 2 (v := .int .i64 t.c1) rfl
  have k13 := keep_fresh b1 3 (v := .int .i64 t.r1) rfl
  have k14 := keep_fresh b1 4 (v := .int .i64 t.c2) rfl
  have k15 := keep_fresh b1 5 (v := .int .i64 t.r2) rfl
  have k16 := keep_fresh b1 6 (v := .string ⟨t.word.toArray⟩) rfl
  have k17 := keep_fresh b1 7 (v := .slice A t.kids.length ca) rfl
  have h1 : Below w.heap.size w w1 := ((Below.refl _ _).alloc (Nat.le_refl _) _).trans (b1.mono (by simp))
  clear b1
  go_wp2_with fail
  refine (HT.out _ h1).mono ?_; rintro e w2 ⟨rfl, b2⟩
  have h2 := h1.trans (b2.mono h1.size)
  clear b2 h1
  go_wp2_with fail
  go_ret
  exact ⟨rfl, h2⟩
theorem rprint_any (t : Tr) (ht : Wid t) (hf : Fit t) (hd : deepT t ≤ 1000000000) (hl : (txT t).length ≤ 140737488355328) (w : World) (A : Option Addr) (ca : Nat) (hA : KV w (fun _ => True) t A) :
    Calls Tryd.prog 24 #[tv t A ca] w fun e w' => e = .returned (.string ⟨(printP t).toArray⟩) ∧ Below w.heap.size w w' := by
  unfold printP
  cases hr : rightP t with
  | true => exact rprint_yes t ht hf hd hr hl w A ca hA
  | false => exact rprint_no t ht hd hr w A ca hA
end Go.Proofs.YteflmfifhmlpiaaDoor
namespace Go.Proofs.YteflmfifhmlpiaaDoor
open Go.RowKit

def witB : Nat → Tr → Bool
  | 0, _ => false
  | m + 1, t => decide (t.kids.length ≤ 400) && t.kids.all (witB m)
theorem wit_deep : ∀ {m : Nat} {t : Tr}, witB m t = true → deepT t ≤ m
  | 0, t, h => by cases h
  | m + 1, t, h => by
    rw [witB, Bool.and_eq_true, List.all_eq_true] at h
    rw [deep_eq]
    have key : ∀ (ks : List Tr), (∀ x ∈ ks, witB m x = true) → deepL ks ≤ m := by
      intro ks
      induction ks with
      | nil => intro _; rw [deepL]; exact Nat.zero_le _
      | cons a r ih =>
        intro hk
        rw [deepL]
        exact Nat.max_le.2 ⟨wit_deep (hk a (by simp)), ih fun x hx => hk x (by simp [hx])⟩
    have := key t.kids h.2
    omega
theorem all_take' {f : Tr → Bool} {ks : List Tr} {i : Nat} {u : Tr} (h : ks[i]? = some u) (ha : (ks.take i).all f = true) (hu : f u = true) : (ks.take (i + 1)).all f = true := by
  rw [List.take_add_one, h, List.all_append, ha]
  simp [hu]
theorem all_bad' {f : Tr → Bool} {ks : List Tr} {i : Nat} {u : Tr} (h : ks[i]? = some u) (hu : f u = false) : ks.all f = false := by
  rw [List.all_eq_false]
  exact ⟨u, List.mem_of_getElem? h, by rw [hu]; decide⟩
set_option maxHeartbeats 2000000 in
set_option maxRecDepth 10000 in
theorem lwithin_any : ∀ (m : Nat) (t : Tr), m ≤ 1000 → Wid t → ∀ (q : Int), q = (m : Int) → ∀ (w : World) (P : Nat → Prop) (A : Option Addr) (cap : Nat), KV w P t A →
    Calls Tryd.prog 22 #[tv t A cap, .int .i64 q] w fun e w' => e = .returned (.bool (witB m t)) ∧ Below w.heap.size w w' := by
  intro m
  induction m with
  | zero =>
    intro t _ _ q hq w P A cap _
    subst hq
    unfold tv
    go_enter Tryd.func22, Tryd.ntmps22
    go_wp2_with fail
    go_ret
    exact ⟨rfl, (Below.refl _ _).alloc (Nat.le_refl _) _⟩
  | succ m ih =>
    intro t hm hw q hq w P A cap hk
    unfold tv
    have hlen := hw.len
    unfold maxLen at hlen
    have HW := Lib.hid hw
    have HK := Lib.hid hk
    have HI := Lib.hid ih
    have HB : Hid (witB (m + 1) t = (decide (t.kids.length ≤ 400) && t.kids.all (witB m))) := Lib.hid rfl
    have dm : (q == 0) = false := by rw [beq_eq_false_iff_ne]; omega
    have hq1 : 1 ≤ q ∧ q ≤ 1000 := by omega
    have HQ := Lib.hid (show q - 1 = (m : Int) from by omega)
    have hm' : m ≤ 1000 := by omega
    clear hk ih hw hq hm
    by_cases h4 : 400 < t.kids.length
    · have d4 : decide ((400 : Int) < (t.kids.length : Int)) = true := decide_eq_true (by omega)
      have HF := Lib.hid (show witB (m + 1) t = false from by rw [HB.out, decide_eq_false (by omega)]; rfl)
      clear h4 HB
      go_enter Tryd.func22, Tryd.ntmps22
      go_wp2_with fail
      go_ret
      exact ⟨by rw [HF.out]; rfl, (Below.refl _ _).alloc (Nat.le_refl _) _⟩
    · have d4 : decide ((400 : Int) < (t.kids.length : Int)) = false := decide_eq_false (by omega)
      have HB2 := Lib.hid (show witB (m + 1) t = t.kids.all (witB m) from by rw [HB.out, decide_eq_true (by omega)]; rfl)
      clear h4 HB
      go_enter Tryd.func22, Tryd.ntmps22
      go_wp2_with fail
      go_loopw [5] (fun vi wr => ∃ i : Nat, i ≤ t.kids.length ∧ vi = .int .i64 (i : Int) ∧ Hid ((t.kids.take i).all (witB m) = true) ∧ Below w.heap.size w wr ∧ w.heap.size < wr.heap.size ∧ wr.cell? ⟨w.heap.size, 7, none⟩ = some (.slice A t.kids.length cap)) (fun vi _ => t.kids.length - (intOf vi).toNat)
      case atStart => exact ⟨0, Nat.zero_le _, rfl, Lib.hid rfl, (Below.refl _ _).alloc (Nat.le_refl _) _, by simp, by simp [go_sem]⟩
      case round =>
        obtain ⟨i, hi, rfl, HTK, hbel, hsz, c7⟩ := hrel
        by_cases hlt : i < t.kids.length
        · have hu : t.kids[i]? = some (t.kids[i]'hlt) := List.getElem?_eq_getElem hlt
          obtain ⟨g, o, rfl⟩ := HK.out.addr hu
          obtain ⟨hg, A', cap', h8, hkv⟩ := HK.out.kidAt hbel hu
          have HTE := Lib.hid fun e => all_take' hu HTK.out e
          have HTB := Lib.hid fun e => all_bad' (f := witB m) hu e
          have HC := Lib.hid (HI.out _ hm' (HW.out.kid hu) (q - 1) HQ.out wr _ A' cap' hkv)
          generalize t.kids[i]'hlt = x at *
          unfold At8 at h8
          unfold tv at HC
          obtain ⟨q0, q1, q2, q3, q4, q5, q6, q7⟩ := h8
          clear hkv hu
          go_wp2_with fail
          refine HC.out.mono ?_; rintro e w1 ⟨rfl, b1⟩
          have e7 := keep_cell b1 c7
          have s7 : w.heap.size < w1.heap.size := Nat.lt_of_lt_of_le hsz b1.size
          have hb1 := hbel.trans (b1.mono hbel.size)
          clear b1 c7 q0 q1 q2 q3 q4 q5 q6 q7
          generalize hM : witB m x = M at *
          cases M with
          | true =>
            have HG := Lib.hid (HTE.out rfl)
            clear HTE HTB hM
            go_wp2_with fail
            go_roundw
            case rel => exact ⟨i + 1, by omega, by go_num, HG, hb1, s7, e7⟩
            case measure => simp [intOf]; omega
          | false =>
            have HF := Lib.hid (HTB.out rfl)
            clear HTE HTB hM
            go_wp2_with fail
            go_ret
            exact ⟨by rw [HB2.out, HF.out]; rfl, hb1⟩
        · have hii : i = t.kids.length := by omega
          subst hii
          have hz : t.kids.all (witB m) = true := by have := HTK.out; rwa [List.take_length] at this
          have HZ := Lib.hid hz
          clear hz
          go_wp2_with fail
          go_ret
          exact ⟨by rw [HB2.out, HZ.out]; rfl, hbel⟩
end Go.Proofs.YteflmfifhmlpiaaDoor
namespace Go.Proofs.YteflmfifhmlpiaaDoor
open Go.RowKit

def fitsB (t : Tr) : Bool := decide (szT t 400 ≤ 400) && witB 40 t
theorem fits_iff {t : Tr} : fitsB t = true ↔ szT t 400 ≤ 400 ∧ witB 40 t = true := by unfold fitsB; simp
theorem fits_deep {t : Tr} (h : fitsB t = true) : deepT t ≤ 40 := wit_deep (fits_iff.1 h).2
set_option maxHeartbeats 1000000 in
set_option maxRecDepth 10000 in
theorem lfits_any (t : Tr) (hW : Wid t) (w : World) (A : Option Addr) (cap : Nat) (hk : KV w (fun _ => True) t A) :
    Calls Tryd.prog 5 #[tv t A cap] w fun e w' => e = .returned (.bool (fitsB t)) ∧ Below w.heap.size w w' := by
  have hlen := hW.len
  unfold maxLen at hlen
  have h0 : ∀ ob, Below w.heap.size w (w.alloc ob) := fun ob => (Below.refl _ _).alloc (Nat.le_refl _) ob
  have H1 := Lib.hid (fun ob => lsize_any hW 400 (by decide) (by decide) (w.alloc ob) (fun _ => True) A cap (hk.kept (Kept.of_below (h0 ob))))
  have H2 := Lib.hid (fun w1 (hb : Below w.heap.size w w1) => lwithin_any 40 t (by decide) hW 40 rfl w1 (fun _ => True) A cap (hk.kept (Kept.of_below hb)))
  have hb := szT_bound t 400 (by decide)
  unfold tv at *
  by_cases hz : szT t 400 ≤ 400
  · have hf : fitsB t = witB 40 t := by unfold fitsB; rw [decide_eq_true hz]; rfl
    have HF := Lib.hid hf
    have dz : decide (400 < szT t 400) = false := decide_eq_false (by omega)
    generalize szT t 400 = z at *
    clear hk hW hz hf
    go_enter Tryd.func5, Tryd.ntmps5
    go_wp2_with fail
    refine (H1.out _).mono ?_; rintro e w1 ⟨rfl, b1⟩
    have k10 := keep_fresh b1 0 (v := .int .i64 t.kind) rfl
    have k11 := keep_fresh b1 1 (v := .int .i64 t.num) rfl
    have k12 := keep_fresh b1 2 (v := .int .i64 t.c1) rfl
    have k13 := keep_fresh b1 3 (v := .int .i64 t.r1) rfl
    have k14 := keep_fresh b1 4 (v := .int .i64 t.c2) rfl
    have k15 := keep_fresh b1 5 (v := .int .i64 t.r2) rfl
    have k16 := keep_fresh b1 6 (v := .string ⟨t.word.toArray⟩) rfl
    have k17 := keep_fresh b1 7 (v := .slice A t.kids.length cap) rfl
    have h1 : Below w.heap.size w w1 := ((Below.refl _ _).alloc (Nat.le_refl _) _).trans (b1.mono (by simp))
    have HH := Lib.hid h1
    clear b1 h1
    go_wp2_with fail
    refine (H2.out w1 HH.out).mono ?_; rintro e w2 ⟨rfl, b2⟩
    have h2 := HH.out.trans (b2.mono HH.out.size)
    clear b2 k10 k11 k12 k13 k14 k15 k16 k17
    go_wp2_with fail
    go_ret
    exact ⟨by rw [HF.out]; rfl, h2⟩
  · have hf : fitsB t = false := by unfold fitsB; rw [decide_eq_false hz]; rfl
    have HF := Lib.hid hf
    have dz : decide (400 < szT t 400) = true := decide_eq_true (by omega)
    generalize szT t 400 = z at *
    clear hk hW hz hf
    go_enter Tryd.func5, Tryd.ntmps5
    go_wp2_with fail
    refine (H1.out _).mono ?_; rintro e w1 ⟨rfl, b1⟩
    have h1 : Below w.heap.size w w1 := ((Below.refl _ _).alloc (Nat.le_refl _) _).trans (b1.mono (by simp))
    clear b1
    go_wp2_with fail
    go_ret
    exact ⟨by rw [HF.out]; rfl, h1⟩
end Go.Proofs.YteflmfifhmlpiaaDoor
