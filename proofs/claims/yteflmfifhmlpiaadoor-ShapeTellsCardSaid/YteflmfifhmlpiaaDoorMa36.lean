import Derived.Test.YteflmfifhmlpiaaDoorMa35
import Derived.Test.YteflmfifhmlpiaaDoorMa32
import Derived.Test.YteflmfifhmlpiaaDoorMa08
import Derived.Test.YteflmfifhmlpiaaDoorMa09
import Derived.Test.YteflmfifhmlpiaaDoorMa17
import Derived.Test.YteflmfifhmlpiaaDoorMa05
import Derived.Test.YteflmfifhmlpiaaDoorMa27
import Derived.Test.YteflmfifhmlpiaaDoorMa22
import Derived.Test.YteflmfifhmlpiaaDoorMa18
set_option linter.all false
namespace Go.Proofs.YteflmfifhmlpiaaDoor
open Go.RowKit

theorem roper_run {R : Nat} {A : Option Addr} {cap : Nat} {L : List Tok} {E k : Nat} (hL : L.length ≤ 1000) (hk9 : k ≤ 100000)
    (hP : TreeC R A cap L E 41 #[.pointer (some ⟨R, 0, none⟩), .int .i64 1] (lineF L E k 1))
    (hI : ∀ c j, j ≤ k → TreeC R A cap L E 87 #[.pointer (some ⟨R, 0, none⟩), .bool c] (itemF L E j c)) :
    TreeC R A cap L E 77 #[.pointer (some ⟨R, 0, none⟩)] (operF L E (k + 1)) := by
  refine TreeC.of (roperand_out hL) fun w p g hr hk hg => ?_
  rw [operF] at hg
  cases hm : isMark L p [40] with
  | true =>
    rw [if_pos hm] at hg
    exact roper_brk R A cap L E hL w p hr hk hP g hm hg
  | false =>
    rw [if_neg (by rw [hm]; decide)] at hg
    cases ht : L[p]? with
    | none =>
      rw [ht] at hg
      obtain rfl : (.out E, none) = g := Option.some.inj hg
      have h := roper_off R A cap L E hL w p hr hk hm (fun h => by rw [List.getElem?_eq_getElem h] at ht; cases ht)
      rw [whr_none ht] at h
      exact h
    | some t =>
      rw [ht] at hg
      have hg2 : toS (if t.kind = 5 then some (.bad t.frm) else if t.kind = 1 then some (.ok (numT t.num) (p + 1)) else if t.kind = 2 then some (.ok (readT t.col t.row) (p + 1)) else if t.kind = 3 then some (.ok badT (p + 1))
        else mustF L E (p + 1) [40] fun q =>
          if t.text = [73, 70] then Res.next (lineF L E k 1 q) fun a q => mustF L E q [44] fun q => Res.next (lineF L E k 1 q) fun b q => mustF L E q [44] fun q => Res.next (lineF L E k 1 q) fun c q => mustF L E q [41] fun q => some (.ok (callT [73, 70] [a, b, c]) q)
          else itemsF L E k t.text [] q) = some g := hg
      clear hg
      by_cases k5 : t.kind = 5
      · rw [if_pos k5] at hg2
        obtain rfl : (.out t.frm, none) = g := Option.some.inj hg2
        have h := roper_five R A cap L E hL w p hr hk hm t ht (by rw [beq_iff_eq]; exact k5)
        rw [whr_some ht] at h
        exact h
      rw [if_neg k5] at hg2
      have b5 : (t.kind == 5) = false := by rw [beq_eq_false_iff_ne]; exact k5
      by_cases k1 : t.kind = 1
      · rw [if_pos k1] at hg2
        obtain rfl : (.run (p + 1), some (numT t.num)) = g := Option.some.inj hg2
        exact roper_num R A cap L E hL w p hr hk hm t ht b5 (by rw [beq_iff_eq]; exact k1)
      rw [if_neg k1] at hg2
      have b1 : (t.kind == 1) = false := by rw [beq_eq_false_iff_ne]; exact k1
      by_cases k2 : t.kind = 2
      · rw [if_pos k2] at hg2
        obtain rfl : (.run (p + 1), some (readT t.col t.row)) = g := Option.some.inj hg2
        exact roper_read R A cap L E hL w p hr hk hm t ht b5 b1 (by rw [beq_iff_eq]; exact k2)
      rw [if_neg k2] at hg2
      have b2 : (t.kind == 2) = false := by rw [beq_eq_false_iff_ne]; exact k2
      by_cases k3 : t.kind = 3
      · rw [if_pos k3] at hg2
        obtain rfl : (.run (p + 1), some badT) = g := Option.some.inj hg2
        exact roper_bad R A cap L E hL w p hr hk hm t ht b5 b1 b2 (by rw [beq_iff_eq]; exact k3)
      rw [if_neg k3] at hg2
      have b3 : (t.kind == 3) = false := by rw [beq_eq_false_iff_ne]; exact k3
      by_cases hw : t.text = [73, 70]
      · simp only [if_pos hw] at hg2
        exact roper_if R A cap L E hL w p hr hk hm t ht b5 b1 b2 b3 (by rw [beq_iff_eq]; exact hw) hP g hg2
      · simp only [if_neg hw] at hg2
        exact roper_items R A cap L E hL w p hr hk hm t ht b5 b1 b2 b3 (by rw [beq_eq_false_iff_ne]; exact hw) hk9 (fun j hj => hI _ j hj) g (must_goS hg2)
structure FamR (R : Nat) (A : Option Addr) (cap : Nat) (L : List Tok) (E k : Nat) : Prop where
  l4 : TreeC R A cap L E 41 #[.pointer (some ⟨R, 0, none⟩), .int .i64 4] (lineF L E k 4)
  l3 : TreeC R A cap L E 41 #[.pointer (some ⟨R, 0, none⟩), .int .i64 3] (lineF L E k 3)
  l2 : TreeC R A cap L E 41 #[.pointer (some ⟨R, 0, none⟩), .int .i64 2] (lineF L E k 2)
  l1 : TreeC R A cap L E 41 #[.pointer (some ⟨R, 0, none⟩), .int .i64 1] (lineF L E k 1)
  pref : TreeC R A cap L E 61 #[.pointer (some ⟨R, 0, none⟩)] (prefF L E k)
  oper : TreeC R A cap L E 77 #[.pointer (some ⟨R, 0, none⟩)] (operF L E k)
  item : ∀ c, TreeC R A cap L E 87 #[.pointer (some ⟨R, 0, none⟩), .bool c] (itemF L E k c)
theorem famR_zero (R : Nat) (A : Option Addr) (cap : Nat) (L : List Tok) (E : Nat) (hL : L.length ≤ 1000) : FamR R A cap L E 0 := by
  refine ⟨?_, ?_, ?_, ?_, ?_, ?_, fun c => ?_⟩
  · exact TreeC.of (rline_out4 hL) fun w p g _ _ hg => by rw [lineF] at hg; cases hg
  · exact TreeC.of (rline_out3 hL) fun w p g _ _ hg => by rw [lineF] at hg; cases hg
  · exact TreeC.of (rline_out2 hL) fun w p g _ _ hg => by rw [lineF] at hg; cases hg
  · exact TreeC.of (rline_out1 hL) fun w p g _ _ hg => by rw [lineF] at hg; cases hg
  · exact TreeC.of (rprefix_out hL) fun w p g _ _ hg => by rw [prefF] at hg; cases hg
  · exact TreeC.of (roperand_out hL) fun w p g _ _ hg => by rw [operF] at hg; cases hg
  · cases c
    · exact TreeC.of (ritem_out_false hL) fun w p g _ _ hg => by rw [itemF] at hg; cases hg
    · exact TreeC.of (ritem_out_true hL) fun w p g _ _ hg => by rw [itemF] at hg; cases hg
theorem famR_all {R : Nat} {A : Option Addr} {cap : Nat} {L : List Tok} {E : Nat} (hL : L.length ≤ 1000) (hG : GoodL L) : ∀ k, k ≤ 100000 → ∀ j, j ≤ k → FamR R A cap L E j
  | 0, _, j, hj => by
    obtain rfl : j = 0 := by omega
    exact famR_zero R A cap L E hL
  | k + 1, hk, j, hj => by
    have H := famR_all (R := R) (A := A) (cap := cap) (E := E) hL hG k (by omega)
    by_cases hjk : j ≤ k
    · exact H j hjk
    obtain rfl : j = k + 1 := by omega
    refine ⟨?_, ?_, ?_, ?_, ?_, ?_, fun c => ?_⟩
    · exact rline_run4 hL (H k (Nat.le_refl _)).pref
    · exact rline_runL 3 (by decide) (by decide) hL (rline_out3 hL) fun j hj => (H j hj).l4
    · exact rline_runL 2 (by decide) (by decide) hL (rline_out2 hL) fun j hj => (H j hj).l3
    · exact rline_runL 1 (by decide) (by decide) hL (rline_out1 hL) fun j hj => (H j hj).l2
    · exact rprefix_run hL (H k (Nat.le_refl _)).pref (H k (Nat.le_refl _)).oper
    · exact roper_run hL (by omega) (H k (Nat.le_refl _)).l1 fun c j hj => (H j hj).item c
    · cases c
      · exact ritem_run0 hL hG (H k (Nat.le_refl _)).l1
      · exact ritem_run1 hL hG
end Go.Proofs.YteflmfifhmlpiaaDoor
namespace Go.Proofs.YteflmfifhmlpiaaDoor

def GivD (D : Nat) (o : Option Res) : Prop := ∀ t q, o = some (.ok t q) → Wid t ∧ deepT t ≤ D
theorem GivD.ok {D : Nat} {t : Tr} {q : Nat} (h : Wid t) (hd : deepT t ≤ D) : GivD D (some (.ok t q)) := fun _ _ e => by cases e; exact ⟨h, hd⟩
theorem GivD.bad {D w : Nat} : GivD D (some (.bad w)) := fun _ _ e => by cases e
theorem GivD.le {D D' : Nat} {o : Option Res} (h : GivD D o) (hd : D ≤ D') : GivD D' o := fun t q e => ⟨(h t q e).1, Nat.le_trans (h t q e).2 hd⟩
theorem GivD.next {D D' : Nat} {a : Option Res} {f : Tr → Nat → Option Res} (h : GivD D a) (hf : ∀ t q, Wid t → deepT t ≤ D → GivD D' (f t q)) : GivD D' (Res.next a f) := fun t q e => by
  cases a with
  | none => cases e
  | some r =>
    cases r with
    | ok u p => exact hf u p (h u p rfl).1 (h u p rfl).2 t q e
    | bad w => cases e
theorem GivD.must {D : Nat} {L : List Tok} {E p : Nat} {s : List UInt8} {f : Nat → Option Res} (hf : ∀ q, GivD D (f q)) : GivD D (mustF L E p s f) := by
  unfold mustF
  split
  · exact hf _
  · exact .bad
theorem wid_leaf (k n c r d s : Int) (w : List UInt8) : Wid (.mk k n c r d s w []) := .mk (Nat.zero_le _) fun t h => by cases h
theorem deep_leaf (k n c r d s : Int) (w : List UInt8) : deepT (.mk k n c r d s w []) = 1 := by rw [deepT, deepL]
theorem wid_node {k n c r d s : Int} {w : List UInt8} {ks : List Tr} (hl : ks.length ≤ 1000000) (h : ∀ t ∈ ks, Wid t) : Wid (.mk k n c r d s w ks) := .mk (Nat.le_trans hl (by decide)) h
structure DAll (L : List Tok) (E k : Nat) : Prop where
  line : ∀ lev p, GivD (k * k + 1) (lineF L E k lev p)
  rest : ∀ lev out p m, Wid out → deepT out ≤ m → k * k + 1 ≤ m → GivD (m + k) (restF L E k lev out p)
  pref : ∀ p, GivD (k * k + 1) (prefF L E k p)
  oper : ∀ p, GivD (k * k + 1) (operF L E k p)
  items : ∀ w acc p m, (∀ t ∈ acc, Wid t) → deepL acc ≤ m → k * k + 1 ≤ m → acc.length + k ≤ 1000000 → GivD (m + 1) (itemsF L E k w acc p)
  item : ∀ c p, GivD (k * k + 1) (itemF L E k c p)
theorem d_all (L : List Tok) (E : Nat) : ∀ k, k ≤ 100000 → DAll L E k
  | 0, _ => by
    constructor <;> intros <;> first | (rw [lineF]; intro _ _ h; cases h) | (rw [restF]; intro _ _ h; cases h) | (rw [prefF]; intro _ _ h; cases h) | (rw [operF]; intro _ _ h; cases h) | (rw [itemsF]; intro _ _ h; cases h) | (rw [itemF]; intro _ _ h; cases h)
  | k + 1, hk => by
    have I := d_all L E k (by omega)
    have e : (k + 1) * (k + 1) + 1 = k * k + 1 + (2 * k + 1) := by rw [Nat.add_mul, Nat.mul_add]; omega
    have leaf : ∀ (a n c r d s : Int) (q : Nat), GivD ((k + 1) * (k + 1) + 1) (some (.ok (.mk a n c r d s [] []) q)) := fun a n c r d s q => .ok (wid_leaf _ _ _ _ _ _ _) (by rw [deep_leaf]; omega)
    constructor
    · intro lev p
      simp only [lineF]
      split
      · exact (I.pref p).le (by omega)
      · exact (I.line _ _).next fun t q hw hd => (I.rest lev t q _ hw hd (Nat.le_refl _)).le (by omega)
    · intro lev out p m hw hd hm
      simp only [restF]
      split
      · refine (I.line _ _).next fun t q hwt hdt => (I.rest lev _ q (m + 1) ?_ ?_ (by omega)).le (by omega)
        · exact wid_node (by simp) fun x hx => by
            simp only [List.mem_cons, List.not_mem_nil, or_false] at hx
            rcases hx with rfl | rfl
            · exact hw
            · exact hwt
        · show deepT (.mk _ _ _ _ _ _ _ [out, t]) ≤ _
          rw [deepT, deepL, deepL, deepL]
          omega
      · exact .ok hw (by omega)
    · intro p
      simp only [prefF]
      split
      · refine (I.pref _).next fun t q hw hd => .ok (wid_node (by simp) fun x hx => ?_) ?_
        · simp only [List.mem_cons, List.not_mem_nil, or_false] at hx
          rw [hx]; exact hw
        · show deepT (.mk _ _ _ _ _ _ _ [t]) ≤ _
          rw [deepT, deepL, deepL]
          omega
      · exact (I.oper p).le (by omega)
    · intro p
      simp only [operF]
      split
      · exact (I.line _ _).next fun t q hw hd => .must fun _ => .ok hw (by omega)
      · split
        · exact .bad
        · rename_i t ht
          split
          · exact .bad
          · split
            · exact leaf _ _ _ _ _ _ _
            · split
              · exact leaf _ _ _ _ _ _ _
              · split
                · exact leaf _ _ _ _ _ _ _
                · refine .must fun q => ?_
                  split
                  · refine (I.line _ _).next fun a q ha hda => .must fun q => (I.line _ _).next fun b q hb hdb => .must fun q => (I.line _ _).next fun c q hc hdc => .must fun q => .ok (wid_node (by simp) fun x hx => ?_) ?_
                    · simp only [List.mem_cons, List.not_mem_nil, or_false] at hx
                      rcases hx with rfl | rfl | rfl
                      · exact ha
                      · exact hb
                      · exact hc
                    · show deepT (.mk _ _ _ _ _ _ _ [a, b, c]) ≤ _
                      rw [deepT, deepL, deepL, deepL, deepL]
                      omega
                  · exact (I.items t.text [] q (k * k + 1) (fun x hx => by cases hx) (by rw [deepL]; omega) (Nat.le_refl _) (by simp; omega)).le (by omega)
    · intro w acc p m ha hd hm hl
      simp only [itemsF]
      refine (I.item _ _).next fun t q hw hdt => ?_
      have hall : ∀ x ∈ acc ++ [t], Wid x := fun x hx => by
        rcases List.mem_append.1 hx with h | h
        · exact ha x h
        · rw [List.mem_singleton.1 h]; exact hw
      have hda : deepL (acc ++ [t]) ≤ m := by rw [deep_snoc]; omega
      split
      · exact I.items w _ _ m hall hda (by omega) (by simp; omega)
      · refine .must fun _ => .ok (wid_node (by simp; omega) hall) ?_
        show deepT (.mk _ _ _ _ _ _ _ (acc ++ [t])) ≤ _
        rw [deepT]
        omega
    · intro c p
      simp only [itemF]
      split
      · exact (I.line 1 p).le (by omega)
      · split
        · exact .bad
        · split
          · exact .bad
          · split
            · exact leaf _ _ _ _ _ _ _
            · refine .must fun q => ?_
              split
              · exact .bad
              · split
                · exact .bad
                · split
                  · exact leaf _ _ _ _ _ _ _
                  · exact leaf _ _ _ _ _ _ _
theorem tree_wid {L : List Tok} {E : Nat} (hL : L.length ≤ 1000) {t : Tr} {q : Nat} (h : treeT L E = some (.ok t q)) : Wid t ∧ deepT t ≤ 1000000000 := by
  obtain ⟨a, b⟩ := (d_all L E (8 * L.length + 6) (by omega)).line 1 0 t q h
  refine ⟨a, Nat.le_trans b ?_⟩
  have : (8 * L.length + 6) * (8 * L.length + 6) ≤ 8006 * 8006 := Nat.mul_le_mul (by omega) (by omega)
  omega
inductive PRes where
  | good (t : Tr)
  | fail (a e : Int)
def parseL (l : List UInt8) : PRes :=
  if ansE l ≠ 0 then .fail (ansP l) (ansE l) else match treeT (ansL l) l.length with
    | none => .fail 0 0
    | some (.bad z) => .fail (z : Int) 2
    | some (.ok t q) => if q < (ansL l).length then .fail (whr (ansL l) l.length q : Int) 2 else if 16 < deepT t then .fail 0 6 else .good t
end Go.Proofs.YteflmfifhmlpiaaDoor
namespace Go.Proofs.YteflmfifhmlpiaaDoor
open Go.RowKit

def PostR (w : World) : PRes → Ending → World → Prop
  | .good t, e, w' => (∃ A ca, e = .returned (.tuple #[.agg #[.int .i64 t.kind, .int .i64 t.num, .int .i64 t.c1, .int .i64 t.r1, .int .i64 t.c2, .int .i64 t.r2, .string ⟨t.word.toArray⟩, .slice A t.kids.length ca], .int .i64 0, .int .i64 0]) ∧ KV w' (fun b => w.heap.size ≤ b) t A) ∧ Below w.heap.size w w'
  | .fail a c, e, w' => e = .returned (.tuple #[.agg #[.int .i64 0, .int .i64 0, .int .i64 0, .int .i64 0, .int .i64 0, .int .i64 0, .string ⟨#[]⟩, .slice none 0 0], .int .i64 a, .int .i64 c]) ∧ Below w.heap.size w w'
set_option maxHeartbeats 2000000 in
set_option maxRecDepth 10000 in
theorem rparse_err (s : ByteArray) (hs : s.size ≤ 9223372036854775807) (w : World) {a c : Int} (h0 : (c != 0) = true) (h1 : ansP s.data.toList = a) (h2 : ansE s.data.toList = c) :
    Calls Tryd.prog 23 #[.string s] w (PostR w (.fail a c)) := by
  have HSc := Lib.hid (fun w => lscan_any s hs w)
  rw [h1, h2] at HSc
  clear h1 h2
  go_enter Tryd.func23, Tryd.ntmps23
  go_wp2_with fail
  refine (HSc.out _).mono ?_; rintro e w1 ⟨v, rfl, hrow, b1⟩
  have k0 := keep_fresh b1 0 (v := .int .i64 0) rfl
  have k1 := keep_fresh b1 1 (v := .int .i64 0) rfl
  have k2 := keep_fresh b1 2 (v := .int .i64 0) rfl
  have k3 := keep_fresh b1 3 (v := .int .i64 0) rfl
  have k4 := keep_fresh b1 4 (v := .int .i64 0) rfl
  have k5 := keep_fresh b1 5 (v := .int .i64 0) rfl
  have k6 := keep_fresh b1 6 (v := .string ⟨#[]⟩) rfl
  have k7 := keep_fresh b1 7 (v := .slice none 0 0) rfl
  have f0 := fresh_frozen b1 0
  have f1 := fresh_frozen b1 1
  have f2 := fresh_frozen b1 2
  have f3 := fresh_frozen b1 3
  have f4 := fresh_frozen b1 4
  have f5 := fresh_frozen b1 5
  have f6 := fresh_frozen b1 6
  have f7 := fresh_frozen b1 7
  have h1 : Below w.heap.size w w1 := ((Below.refl _ _).alloc (Nat.le_refl _) _).trans (b1.mono (by simp))
  have z1 : w.heap.size < w1.heap.size := by have := b1.size; simp at this; omega
  clear b1 hrow
  go_wp2_with fail
  exact bodyPost_ret (v := .tuple #[.agg #[.int .i64 0, .int .i64 0, .int .i64 0, .int .i64 0, .int .i64 0, .int .i64 0, .string ⟨#[]⟩, .slice none 0 0], .int .i64 a, .int .i64 c]) (by simp [results, Tryd.results23, go_sem, k0, k1, k2, k3, k4, k5, k6, k7, z1]) rfl ⟨rfl, by
    with_reducible repeat' (first | exact h1 | refine Below.setCell ?_ (by exact Nat.le_refl w.heap.size) _ | refine Below.alloc ?_ (by first | omega | (simp; omega)) _)⟩
set_option maxHeartbeats 2000000 in
set_option maxRecDepth 10000 in
theorem rparse_bad (s : ByteArray) (hs : s.size ≤ 9223372036854775807) (w : World) (h2 : ansE s.data.toList = 0) (hL : (ansL s.data.toList).length ≤ 1000) (hG : GoodL (ansL s.data.toList)) {z : Nat} (hg : treeT (ansL s.data.toList) s.size = some (.bad z)) :
    Calls Tryd.prog 23 #[.string s] w (PostR w (.fail (z : Int) 2)) := by
  have HSc := Lib.hid (fun w => lscan_any s hs w)
  rw [h2] at HSc
  have HL := Lib.hid (fun R A cap => (famR_all (R := R) (A := A) (cap := cap) (E := s.size) hL hG (8 * (ansL s.data.toList).length + 6) (by omega) (8 * (ansL s.data.toList).length + 6) (Nat.le_refl _)).l1)
  have HGT : Hid (goS (lineF (ansL s.data.toList) s.size (8 * (ansL s.data.toList).length + 6) 1) (.run 0) = toS (some (.bad z))) := Lib.hid (by rw [← hg]; rfl)
  generalize (ansL s.data.toList) = L at *
  clear h2 hg hG
  go_enter Tryd.func23, Tryd.ntmps23
  go_wp2_with fail
  refine (HSc.out _).mono ?_; rintro e w1 ⟨v, rfl, hrow, b1⟩
  have HK1 : Hid (C8 w1 w.heap.size (.int .i64 0) (.int .i64 0) (.int .i64 0) (.int .i64 0) (.int .i64 0) (.int .i64 0) (.string ⟨#[]⟩) (.slice none 0 0) ∧ F8 w1 w.heap.size) := Lib.hid ⟨⟨keep_fresh b1 0 rfl, keep_fresh b1 1 rfl, keep_fresh b1 2 rfl, keep_fresh b1 3 rfl, keep_fresh b1 4 rfl, keep_fresh b1 5 rfl, keep_fresh b1 6 rfl, keep_fresh b1 7 rfl⟩, fresh_frozen b1 0, fresh_frozen b1 1, fresh_frozen b1 2, fresh_frozen b1 3, fresh_frozen b1 4, fresh_frozen b1 5, fresh_frozen b1 6, fresh_frozen b1 7⟩
  have h1 : Below w.heap.size w w1 := ((Below.refl _ _).alloc (Nat.le_refl _) _).trans (b1.mono (by simp))
  have z1 : w.heap.size < w1.heap.size := by have := b1.size; simp at this; omega
  clear b1
  obtain ⟨A, cap, rfl, hA, hcm⟩ := tok_shape hrow
  unfold maxLen at hcm
  have HA := Lib.hid hA
  have H1 := Lib.hid h1
  clear hrow hA h1
  go_wp2_with fail
  obtain ⟨w2, hw2⟩ : ∃ w2, w2 = w1.alloc (.cells #[.slice A L.length cap, .int .i64 0, .int .i64 (s.size : Int), .bool false, .int .i64 0] 67) := ⟨_, rfl⟩
  rw [← hw2]
  have hb2 : Below w1.heap.size w1 w2 := by rw [hw2]; exact (Below.refl _ _).alloc (Nat.le_refl _) _
  have HR2 : Hid (RS w2 w1.heap.size A cap L s.size (.run 0)) := Lib.hid (by rw [hw2]; exact ⟨Nat.zero_le _, 0, ⟨by simp [go_sem], by simp [go_sem], by simp [go_sem], by simp [go_sem], by simp [go_sem], by simp [go_sem], by simp [go_sem], by simp [go_sem]⟩⟩)
  have z2 : w1.heap.size < w2.heap.size := by rw [hw2]; simp
  have HT2 : Hid (TK w2 w1.heap.size A L) := Lib.hid (by
    by_cases hl : L = []
    · exact .inl hl
    · obtain ⟨gg, hgA, hgl, _, hat⟩ := HA.out hl
      exact .inr ⟨gg, hgA, by omega, by omega, hat.but (R := w1.heap.size) (But.of_below hb2) (by omega)⟩)
  have HB2 : Hid (But w1.heap.size w w2) := Lib.hid ((But.of_below H1.out).trans (But.of_below hb2))
  have HK2 : Hid (C8 w2 w.heap.size (.int .i64 0) (.int .i64 0) (.int .i64 0) (.int .i64 0) (.int .i64 0) (.int .i64 0) (.string ⟨#[]⟩) (.slice none 0 0) ∧ F8 w2 w.heap.size) := Lib.hid ⟨c8_liftB (fun q v hv => keep_cell hb2 hv) HK1.out.1, f8_liftB (fun q hv => keep_frozen hb2 z1 hv) HK1.out.2⟩
  clear hb2 hw2 HK1 H1 HA
  refine (HL.out w1.heap.size A cap w2 (.run 0) _ HR2.out HT2.out HGT.out).mono ?_; rintro e w3 ⟨⟨c0, c1, c2, c3, c4, c5, cw, cA, cl, cc⟩, rfl, v3, r3, b3⟩
  have nK : w.heap.size ≠ w1.heap.size := by omega
  have zK2 : w.heap.size < w2.heap.size := by omega
  have HB3 : Hid (But w1.heap.size w w3) := Lib.hid (HB2.out.trans b3)
  have z3 : w1.heap.size < w3.heap.size := Nat.lt_of_lt_of_le z2 b3.size
  have zK3 : w.heap.size < w3.heap.size := by omega
  have HK3 : Hid (C8 w3 w.heap.size (.int .i64 0) (.int .i64 0) (.int .i64 0) (.int .i64 0) (.int .i64 0) (.int .i64 0) (.string ⟨#[]⟩) (.slice none 0 0) ∧ F8 w3 w.heap.size) := Lib.hid ⟨c8_liftB (fun q v hv => b3.cell nK hv) HK2.out.1, f8_liftB (fun q hv => b3.frozen nK zK2 hv) HK2.out.2⟩
  have HT3 : Hid (TK w3 w1.heap.size A L) := Lib.hid (HT2.out.but b3)
  have z23 : w2.heap.size ≤ w3.heap.size := b3.size
  have HV3 := Lib.hid v3
  clear v3 HK2 HR2 HT2 HB2 b3
  dsimp only [V8.val]
  have HR3 : Hid (RS w3 w1.heap.size A cap L s.size (.out z)) := Lib.hid r3
  obtain ⟨p', hc⟩ := r3
  have r0 := hc.c1
  have r3' := hc.c3
  have r4 := hc.c4
  clear hc
  by_cases hp : p' < (L.length : Int)
  · have dp : decide (p' < (L.length : Int)) = true := decide_eq_true hp
    go_wp2_with fail
    clear r0 r3' r4
    obtain ⟨w4, hw4⟩ : ∃ w4, w4 = w3.alloc (.cells #[.int .i64 c0, .int .i64 c1, .int .i64 c2, .int .i64 c3, .int .i64 c4, .int .i64 c5, .string cw, .slice cA cl cc] 29) := ⟨_, rfl⟩
    rw [← hw4]
    have hb4 : Below w3.heap.size w3 w4 := by rw [hw4]; exact (Below.refl _ _).alloc (Nat.le_refl _) _
    clear hw4
    refine (rfail_any (w := w4) (R := w1.heap.size) (A := A) (cap := cap) (L := L) (E := s.size) (st := .out z) hL (RS.below HR3.out hb4) (HT3.out.but (But.of_below hb4))).mono ?_; rintro e w5 ⟨rfl, r5, b5⟩
    have hb35 : But w1.heap.size w3 w5 := (But.of_below hb4).trans b5
    have HB5 : Hid (But w1.heap.size w w5) := Lib.hid (HB3.out.trans hb35)
    have z35 := hb35.size
    have zK5 : w.heap.size < w5.heap.size := by omega
    have zR5 : w1.heap.size < w5.heap.size := by omega
    have HK5 : Hid (C8 w5 w.heap.size (.int .i64 0) (.int .i64 0) (.int .i64 0) (.int .i64 0) (.int .i64 0) (.int .i64 0) (.string ⟨#[]⟩) (.slice none 0 0) ∧ F8 w5 w.heap.size) := Lib.hid ⟨c8_liftB (fun q v hv => hb35.cell nK hv) HK3.out.1, f8_liftB (fun q hv => hb35.frozen nK zK3 hv) HK3.out.2⟩
    clear hb4 b5 hb35 HK3 HB3 HT3
    
    obtain ⟨p5, hc5⟩ : ∃ p5 : Int, RC w5 w1.heap.size A cap L s.size p5 true (z : Int) := r5
    have r3' := hc5.c3
    have r4 := hc5.c4
    clear hc5
    obtain ⟨⟨k0, k1, k2, k3, k4, k5, k6, k7⟩, f0, f1, f2, f3, f4, f5, f6, f7⟩ := HK5.out
    go_wp2_with fail
    go_region
    all_goals go_wp2_with fail
    all_goals exact bodyPost_ret (v := .tuple #[.agg #[.int .i64 0, .int .i64 0, .int .i64 0, .int .i64 0, .int .i64 0, .int .i64 0, .string ⟨#[]⟩, .slice none 0 0], .int .i64 (z : Int), .int .i64 2]) (by simp [results, Tryd.results23, go_sem, k0, k1, k2, k3, k4, k5, k6, k7, zK5]) rfl ⟨rfl, by
      have hb := HB5.out.below (n := w.heap.size) (by omega) (Nat.le_refl _)
      with_reducible repeat' (first | exact hb | refine Below.setCell ?_ (by exact Nat.le_refl w.heap.size) _ | refine Below.drew ?_ | refine Below.alloc ?_ (by first | omega | (simp; omega)) _)⟩
  · have dp : decide (p' < (L.length : Int)) = false := decide_eq_false hp
    obtain ⟨⟨k0, k1, k2, k3, k4, k5, k6, k7⟩, f0, f1, f2, f3, f4, f5, f6, f7⟩ := HK3.out
    go_wp2_with fail
    go_region
    all_goals go_wp2_with fail
    all_goals exact bodyPost_ret (v := .tuple #[.agg #[.int .i64 0, .int .i64 0, .int .i64 0, .int .i64 0, .int .i64 0, .int .i64 0, .string ⟨#[]⟩, .slice none 0 0], .int .i64 (z : Int), .int .i64 2]) (by simp [results, Tryd.results23, go_sem, k0, k1, k2, k3, k4, k5, k6, k7, zK3]) rfl ⟨rfl, by
      have hb := HB3.out.below (n := w.heap.size) (by omega) (Nat.le_refl _)
      with_reducible repeat' (first | exact hb | refine Below.setCell ?_ (by exact Nat.le_refl w.heap.size) _ | refine Below.drew ?_ | refine Below.alloc ?_ (by first | omega | (simp; omega)) _)⟩
set_option maxHeartbeats 2000000 in
set_option maxRecDepth 10000 in
theorem rparse_more (s : ByteArray) (hs : s.size ≤ 9223372036854775807) (w : World) (h2 : ansE s.data.toList = 0) (hL : (ansL s.data.toList).length ≤ 1000) (hG : GoodL (ansL s.data.toList)) {t : Tr} {q : Nat} (hq : q < (ansL s.data.toList).length) (hg : treeT (ansL s.data.toList) s.size = some (.ok t q)) :
    Calls Tryd.prog 23 #[.string s] w (PostR w (.fail (whr (ansL s.data.toList) s.size q : Int) 2)) := by
  have HSc := Lib.hid (fun w => lscan_any s hs w)
  rw [h2] at HSc
  have HL := Lib.hid (fun R A cap => (famR_all (R := R) (A := A) (cap := cap) (E := s.size) hL hG (8 * (ansL s.data.toList).length + 6) (by omega) (8 * (ansL s.data.toList).length + 6) (Nat.le_refl _)).l1)
  have HGT : Hid (goS (lineF (ansL s.data.toList) s.size (8 * (ansL s.data.toList).length + 6) 1) (.run 0) = toS (some (.ok t q))) := Lib.hid (by rw [← hg]; rfl)
  generalize (ansL s.data.toList) = L at *
  clear h2 hg hG
  go_enter Tryd.func23, Tryd.ntmps23
  go_wp2_with fail
  refine (HSc.out _).mono ?_; rintro e w1 ⟨v, rfl, hrow, b1⟩
  have HK1 : Hid (C8 w1 w.heap.size (.int .i64 0) (.int .i64 0) (.int .i64 0) (.int .i64 0) (.int .i64 0) (.int .i64 0) (.string ⟨#[]⟩) (.slice none 0 0) ∧ F8 w1 w.heap.size) := Lib.hid ⟨⟨keep_fresh b1 0 rfl, keep_fresh b1 1 rfl, keep_fresh b1 2 rfl, keep_fresh b1 3 rfl, keep_fresh b1 4 rfl, keep_fresh b1 5 rfl, keep_fresh b1 6 rfl, keep_fresh b1 7 rfl⟩, fresh_frozen b1 0, fresh_frozen b1 1, fresh_frozen b1 2, fresh_frozen b1 3, fresh_frozen b1 4, fresh_frozen b1 5, fresh_frozen b1 6, fresh_frozen b1 7⟩
  have h1 : Below w.heap.size w w1 := ((Below.refl _ _).alloc (Nat.le_refl _) _).trans (b1.mono (by simp))
  have z1 : w.heap.size < w1.heap.size := by have := b1.size; simp at this; omega
  clear b1
  obtain ⟨A, cap, rfl, hA, hcm⟩ := tok_shape hrow
  unfold maxLen at hcm
  have HA := Lib.hid hA
  have H1 := Lib.hid h1
  clear hrow hA h1
  go_wp2_with fail
  obtain ⟨w2, hw2⟩ : ∃ w2, w2 = w1.alloc (.cells #[.slice A L.length cap, .int .i64 0, .int .i64 (s.size : Int), .bool false, .int .i64 0] 67) := ⟨_, rfl⟩
  rw [← hw2]
  have hb2 : Below w1.heap.size w1 w2 := by rw [hw2]; exact (Below.refl _ _).alloc (Nat.le_refl _) _
  have HR2 : Hid (RS w2 w1.heap.size A cap L s.size (.run 0)) := Lib.hid (by rw [hw2]; exact ⟨Nat.zero_le _, 0, ⟨by simp [go_sem], by simp [go_sem], by simp [go_sem], by simp [go_sem], by simp [go_sem], by simp [go_sem], by simp [go_sem], by simp [go_sem]⟩⟩)
  have z2 : w1.heap.size < w2.heap.size := by rw [hw2]; simp
  have HT2 : Hid (TK w2 w1.heap.size A L) := Lib.hid (by
    by_cases hl : L = []
    · exact .inl hl
    · obtain ⟨gg, hgA, hgl, _, hat⟩ := HA.out hl
      exact .inr ⟨gg, hgA, by omega, by omega, hat.but (R := w1.heap.size) (But.of_below hb2) (by omega)⟩)
  have HB2 : Hid (But w1.heap.size w w2) := Lib.hid ((But.of_below H1.out).trans (But.of_below hb2))
  have HK2 : Hid (C8 w2 w.heap.size (.int .i64 0) (.int .i64 0) (.int .i64 0) (.int .i64 0) (.int .i64 0) (.int .i64 0) (.string ⟨#[]⟩) (.slice none 0 0) ∧ F8 w2 w.heap.size) := Lib.hid ⟨c8_liftB (fun q v hv => keep_cell hb2 hv) HK1.out.1, f8_liftB (fun q hv => keep_frozen hb2 z1 hv) HK1.out.2⟩
  clear hb2 hw2 HK1 H1 HA
  refine (HL.out w1.heap.size A cap w2 (.run 0) _ HR2.out HT2.out HGT.out).mono ?_; rintro e w3 ⟨⟨c0, c1, c2, c3, c4, c5, cw, cA, cl, cc⟩, rfl, v3, r3, b3⟩
  have nK : w.heap.size ≠ w1.heap.size := by omega
  have zK2 : w.heap.size < w2.heap.size := by omega
  have HB3 : Hid (But w1.heap.size w w3) := Lib.hid (HB2.out.trans b3)
  have z3 : w1.heap.size < w3.heap.size := Nat.lt_of_lt_of_le z2 b3.size
  have zK3 : w.heap.size < w3.heap.size := by omega
  have HK3 : Hid (C8 w3 w.heap.size (.int .i64 0) (.int .i64 0) (.int .i64 0) (.int .i64 0) (.int .i64 0) (.int .i64 0) (.string ⟨#[]⟩) (.slice none 0 0) ∧ F8 w3 w.heap.size) := Lib.hid ⟨c8_liftB (fun q v hv => b3.cell nK hv) HK2.out.1, f8_liftB (fun q hv => b3.frozen nK zK2 hv) HK2.out.2⟩
  have HT3 : Hid (TK w3 w1.heap.size A L) := Lib.hid (HT2.out.but b3)
  have z23 : w2.heap.size ≤ w3.heap.size := b3.size
  have HV3 := Lib.hid v3
  clear v3 HK2 HR2 HT2 HB2 b3
  dsimp only [V8.val]
  have HR3 : Hid (RS w3 w1.heap.size A cap L s.size (.run q)) := Lib.hid r3
  obtain ⟨hql, x', hc⟩ := r3
  have r0 := hc.c1
  have r3' := hc.c3
  clear hc
  have dp : decide ((q : Int) < (L.length : Int)) = true := decide_eq_true (by omega)
  go_wp2_with fail
  clear r0 r3'
  obtain ⟨w4, hw4⟩ : ∃ w4, w4 = w3.alloc (.cells #[.int .i64 c0, .int .i64 c1, .int .i64 c2, .int .i64 c3, .int .i64 c4, .int .i64 c5, .string cw, .slice cA cl cc] 29) := ⟨_, rfl⟩
  rw [← hw4]
  have hb4 : Below w3.heap.size w3 w4 := by rw [hw4]; exact (Below.refl _ _).alloc (Nat.le_refl _) _
  clear hw4
  refine (rfail_any (w := w4) (R := w1.heap.size) (A := A) (cap := cap) (L := L) (E := s.size) (st := .run q) hL (RS.below HR3.out hb4) (HT3.out.but (But.of_below hb4))).mono ?_; rintro e w5 ⟨rfl, r5, b5⟩
  have hb35 : But w1.heap.size w3 w5 := (But.of_below hb4).trans b5
  have HB5 : Hid (But w1.heap.size w w5) := Lib.hid (HB3.out.trans hb35)
  have z35 := hb35.size
  have zK5 : w.heap.size < w5.heap.size := by omega
  have zR5 : w1.heap.size < w5.heap.size := by omega
  have HK5 : Hid (C8 w5 w.heap.size (.int .i64 0) (.int .i64 0) (.int .i64 0) (.int .i64 0) (.int .i64 0) (.int .i64 0) (.string ⟨#[]⟩) (.slice none 0 0) ∧ F8 w5 w.heap.size) := Lib.hid ⟨c8_liftB (fun q v hv => hb35.cell nK hv) HK3.out.1, f8_liftB (fun q hv => hb35.frozen nK zK3 hv) HK3.out.2⟩
  clear hb4 b5 hb35 HK3 HB3 HT3
  
  obtain ⟨p5, hc5⟩ : ∃ p5 : Int, RC w5 w1.heap.size A cap L s.size p5 true (whr L s.size q : Int) := r5
  have r3' := hc5.c3
  have r4 := hc5.c4
  clear hc5
  obtain ⟨⟨k0, k1, k2, k3, k4, k5, k6, k7⟩, f0, f1, f2, f3, f4, f5, f6, f7⟩ := HK5.out
  go_wp2_with fail
  go_region
  all_goals go_wp2_with fail
  all_goals exact bodyPost_ret (v := .tuple #[.agg #[.int .i64 0, .int .i64 0, .int .i64 0, .int .i64 0, .int .i64 0, .int .i64 0, .string ⟨#[]⟩, .slice none 0 0], .int .i64 (whr L s.size q : Int), .int .i64 2]) (by simp [results, Tryd.results23, go_sem, k0, k1, k2, k3, k4, k5, k6, k7, zK5]) rfl ⟨rfl, by
    have hb := HB5.out.below (n := w.heap.size) (by omega) (Nat.le_refl _)
    with_reducible repeat' (first | exact hb | refine Below.setCell ?_ (by exact Nat.le_refl w.heap.size) _ | refine Below.drew ?_ | refine Below.alloc ?_ (by first | omega | (simp; omega)) _)⟩
set_option maxHeartbeats 2000000 in
set_option maxRecDepth 10000 in
theorem rparse_deep (s : ByteArray) (hs : s.size ≤ 9223372036854775807) (w : World) (h2 : ansE s.data.toList = 0) (hL : (ansL s.data.toList).length ≤ 1000) (hG : GoodL (ansL s.data.toList)) {t : Tr} (hw : Wid t) (hd : deepT t ≤ 1000000000) (h16 : decide ((16 : Int) < (deepT t : Int)) = true) (hg : treeT (ansL s.data.toList) s.size = some (.ok t (ansL s.data.toList).length)) :
    Calls Tryd.prog 23 #[.string s] w (PostR w (.fail 0 6)) := by
  have HSc := Lib.hid (fun w => lscan_any s hs w)
  rw [h2] at HSc
  have HL := Lib.hid (fun R A cap => (famR_all (R := R) (A := A) (cap := cap) (E := s.size) hL hG (8 * (ansL s.data.toList).length + 6) (by omega) (8 * (ansL s.data.toList).length + 6) (Nat.le_refl _)).l1)
  have HGT : Hid (goS (lineF (ansL s.data.toList) s.size (8 * (ansL s.data.toList).length + 6) 1) (.run 0) = toS (some (.ok t (ansL s.data.toList).length))) := Lib.hid (by rw [← hg]; rfl)
  generalize (ansL s.data.toList) = L at *
  clear h2 hg hG
  go_enter Tryd.func23, Tryd.ntmps23
  go_wp2_with fail
  refine (HSc.out _).mono ?_; rintro e w1 ⟨v, rfl, hrow, b1⟩
  have HK1 : Hid (C8 w1 w.heap.size (.int .i64 0) (.int .i64 0) (.int .i64 0) (.int .i64 0) (.int .i64 0) (.int .i64 0) (.string ⟨#[]⟩) (.slice none 0 0) ∧ F8 w1 w.heap.size) := Lib.hid ⟨⟨keep_fresh b1 0 rfl, keep_fresh b1 1 rfl, keep_fresh b1 2 rfl, keep_fresh b1 3 rfl, keep_fresh b1 4 rfl, keep_fresh b1 5 rfl, keep_fresh b1 6 rfl, keep_fresh b1 7 rfl⟩, fresh_frozen b1 0, fresh_frozen b1 1, fresh_frozen b1 2, fresh_frozen b1 3, fresh_frozen b1 4, fresh_frozen b1 5, fresh_frozen b1 6, fresh_frozen b1 7⟩
  have h1 : Below w.heap.size w w1 := ((Below.refl _ _).alloc (Nat.le_refl _) _).trans (b1.mono (by simp))
  have z1 : w.heap.size < w1.heap.size := by have := b1.size; simp at this; omega
  clear b1
  obtain ⟨A, cap, rfl, hA, hcm⟩ := tok_shape hrow
  unfold maxLen at hcm
  have HA := Lib.hid hA
  have H1 := Lib.hid h1
  clear hrow hA h1
  go_wp2_with fail
  obtain ⟨w2, hw2⟩ : ∃ w2, w2 = w1.alloc (.cells #[.slice A L.length cap, .int .i64 0, .int .i64 (s.size : Int), .bool false, .int .i64 0] 67) := ⟨_, rfl⟩
  rw [← hw2]
  have hb2 : Below w1.heap.size w1 w2 := by rw [hw2]; exact (Below.refl _ _).alloc (Nat.le_refl _) _
  have HR2 : Hid (RS w2 w1.heap.size A cap L s.size (.run 0)) := Lib.hid (by rw [hw2]; exact ⟨Nat.zero_le _, 0, ⟨by simp [go_sem], by simp [go_sem], by simp [go_sem], by simp [go_sem], by simp [go_sem], by simp [go_sem], by simp [go_sem], by simp [go_sem]⟩⟩)
  have z2 : w1.heap.size < w2.heap.size := by rw [hw2]; simp
  have HT2 : Hid (TK w2 w1.heap.size A L) := Lib.hid (by
    by_cases hl : L = []
    · exact .inl hl
    · obtain ⟨gg, hgA, hgl, _, hat⟩ := HA.out hl
      exact .inr ⟨gg, hgA, by omega, by omega, hat.but (R := w1.heap.size) (But.of_below hb2) (by omega)⟩)
  have HB2 : Hid (But w1.heap.size w w2) := Lib.hid ((But.of_below H1.out).trans (But.of_below hb2))
  have HK2 : Hid (C8 w2 w.heap.size (.int .i64 0) (.int .i64 0) (.int .i64 0) (.int .i64 0) (.int .i64 0) (.int .i64 0) (.string ⟨#[]⟩) (.slice none 0 0) ∧ F8 w2 w.heap.size) := Lib.hid ⟨c8_liftB (fun q v hv => keep_cell hb2 hv) HK1.out.1, f8_liftB (fun q hv => keep_frozen hb2 z1 hv) HK1.out.2⟩
  clear hb2 hw2 HK1 H1 HA
  refine (HL.out w1.heap.size A cap w2 (.run 0) _ HR2.out HT2.out HGT.out).mono ?_; rintro e w3 ⟨⟨c0, c1, c2, c3, c4, c5, cw, cA, cl, cc⟩, rfl, v3, r3, b3⟩
  have nK : w.heap.size ≠ w1.heap.size := by omega
  have zK2 : w.heap.size < w2.heap.size := by omega
  have HB3 : Hid (But w1.heap.size w w3) := Lib.hid (HB2.out.trans b3)
  have z3 : w1.heap.size < w3.heap.size := Nat.lt_of_lt_of_le z2 b3.size
  have zK3 : w.heap.size < w3.heap.size := by omega
  have HK3 : Hid (C8 w3 w.heap.size (.int .i64 0) (.int .i64 0) (.int .i64 0) (.int .i64 0) (.int .i64 0) (.int .i64 0) (.string ⟨#[]⟩) (.slice none 0 0) ∧ F8 w3 w.heap.size) := Lib.hid ⟨c8_liftB (fun q v hv => b3.cell nK hv) HK2.out.1, f8_liftB (fun q hv => b3.frozen nK zK2 hv) HK2.out.2⟩
  have HT3 : Hid (TK w3 w1.heap.size A L) := Lib.hid (HT2.out.but b3)
  have z23 : w2.heap.size ≤ w3.heap.size := b3.size
  have HV3 := Lib.hid v3
  clear v3 HK2 HR2 HT2 HB2 b3
  obtain ⟨hql, x', hc⟩ := r3
  have r0 := hc.c1
  have r3' := hc.c3
  clear hc
  obtain ⟨A', ca', hx, hkv⟩ := HV3.out
  obtain ⟨rfl, rfl, rfl, rfl, rfl, rfl, rfl, rfl, rfl, rfl⟩ : c0 = t.kind ∧ c1 = t.num ∧ c2 = t.c1 ∧ c3 = t.r1 ∧ c4 = t.c2 ∧ c5 = t.r2 ∧ cw = ⟨t.word.toArray⟩ ∧ cA = A' ∧ cl = t.kids.length ∧ cc = ca' := by
    unfold tv8 at hx
    injection hx with h0 h1 h2 h3 h4 h5 h6 h7 h8 h9
    exact ⟨h0, h1, h2, h3, h4, h5, h6, h7, h8, h9⟩
  clear hx HV3
  have hlen := hw.len
  unfold maxLen at hlen
  have HKV := Lib.hid hkv
  have HD := Lib.hid (fun w hA => rdeep_any _ t (Nat.le_refl _) hd hw w (fun b => w2.heap.size ≤ b) cA cc hA)
  unfold tv at HD
  clear hkv hw
  dsimp only [V8.val]
  have dp : decide ((L.length : Int) < (L.length : Int)) = false := decide_eq_false (by omega)
  go_wp2_with fail
  clear r0 r3'
  obtain ⟨w4, hw4⟩ : ∃ w4, w4 = w3.alloc (.cells #[.int .i64 t.kind, .int .i64 t.num, .int .i64 t.c1, .int .i64 t.r1, .int .i64 t.c2, .int .i64 t.r2, .string ⟨t.word.toArray⟩, .slice cA t.kids.length cc] 29) := ⟨_, rfl⟩
  rw [← hw4]
  have hb4 : Below w3.heap.size w3 w4 := by rw [hw4]; exact (Below.refl _ _).alloc (Nat.le_refl _) _
  have HX4 : Hid (C8 w4 w3.heap.size (.int .i64 t.kind) (.int .i64 t.num) (.int .i64 t.c1) (.int .i64 t.r1) (.int .i64 t.c2) (.int .i64 t.r2) (.string ⟨t.word.toArray⟩) (.slice cA t.kids.length cc)) := Lib.hid (by rw [hw4]; exact cells8_of' (heap_alloc_new w3 _))
  have z4 : w3.heap.size < w4.heap.size := by rw [hw4]; simp
  clear hw4
  refine (HD.out w4 (HKV.out.kept (Kept.of_below hb4))).mono ?_; rintro e w5 ⟨rfl, b5⟩
  have hb35 : Below w3.heap.size w3 w5 := hb4.trans (b5.mono hb4.size)
  have HB5 : Hid (But w1.heap.size w w5) := Lib.hid (HB3.out.trans (But.of_below hb35))
  have z45 := b5.size
  have zK5 : w.heap.size < w5.heap.size := by omega
  have zX5 : w3.heap.size < w5.heap.size := by omega
  have HK5 : Hid (C8 w5 w.heap.size (.int .i64 0) (.int .i64 0) (.int .i64 0) (.int .i64 0) (.int .i64 0) (.int .i64 0) (.string ⟨#[]⟩) (.slice none 0 0) ∧ F8 w5 w.heap.size) := Lib.hid ⟨c8_liftB (fun q v hv => keep_cell hb35 hv) HK3.out.1, f8_liftB (fun q hv => keep_frozen hb35 zK3 hv) HK3.out.2⟩
  have HKV5 := Lib.hid (HKV.out.kept (Kept.of_below hb35))
  have HX5 : C8 w5 w3.heap.size (.int .i64 t.kind) (.int .i64 t.num) (.int .i64 t.c1) (.int .i64 t.r1) (.int .i64 t.c2) (.int .i64 t.r2) (.string ⟨t.word.toArray⟩) (.slice cA t.kids.length cc) := c8_liftB (fun q v hv => keep_cell b5 hv) HX4.out
  obtain ⟨x0, x1, x2, x3, x4, x5, x6, x7⟩ := HX5
  clear hb4 b5 hb35 HK3 HB3 HT3 HX4 HKV
  obtain ⟨⟨k0, k1, k2, k3, k4, k5, k6, k7⟩, f0, f1, f2, f3, f4, f5, f6, f7⟩ := HK5.out
  go_wp2_with fail
  all_goals exact bodyPost_ret (v := .tuple #[.agg #[.int .i64 0, .int .i64 0, .int .i64 0, .int .i64 0, .int .i64 0, .int .i64 0, .string ⟨#[]⟩, .slice none 0 0], .int .i64 0, .int .i64 6]) (by simp [results, Tryd.results23, go_sem, k0, k1, k2, k3, k4, k5, k6, k7, zK5]) rfl ⟨rfl, by
    have hb := HB5.out.below (n := w.heap.size) (by omega) (Nat.le_refl _)
    with_reducible repeat' (first | exact hb | refine Below.setCell ?_ (by exact Nat.le_refl w.heap.size) _ | refine Below.drew ?_ | refine Below.alloc ?_ (by first | omega | (simp; omega)) _)⟩
set_option maxHeartbeats 2000000 in
set_option maxRecDepth 10000 in
theorem rparse_good (s : ByteArray) (hs : s.size ≤ 9223372036854775807) (w : World) (h2 : ansE s.data.toList = 0) (hL : (ansL s.data.toList).length ≤ 1000) (hG : GoodL (ansL s.data.toList)) {t : Tr} (hw : Wid t) (hd : deepT t ≤ 1000000000) (h16 : decide ((16 : Int) < (deepT t : Int)) = false) (hg : treeT (ansL s.data.toList) s.size = some (.ok t (ansL s.data.toList).length)) :
    Calls Tryd.prog 23 #[.string s] w (PostR w (.good t)) := by
  have HSc := Lib.hid (fun w => lscan_any s hs w)
  rw [h2] at HSc
  have HL := Lib.hid (fun R A cap => (famR_all (R := R) (A := A) (cap := cap) (E := s.size) hL hG (8 * (ansL s.data.toList).length + 6) (by omega) (8 * (ansL s.data.toList).length + 6) (Nat.le_refl _)).l1)
  have HGT : Hid (goS (lineF (ansL s.data.toList) s.size (8 * (ansL s.data.toList).length + 6) 1) (.run 0) = toS (some (.ok t (ansL s.data.toList).length))) := Lib.hid (by rw [← hg]; rfl)
  generalize (ansL s.data.toList) = L at *
  clear h2 hg hG
  go_enter Tryd.func23, Tryd.ntmps23
  go_wp2_with fail
  refine (HSc.out _).mono ?_; rintro e w1 ⟨v, rfl, hrow, b1⟩
  have HK1 : Hid (C8 w1 w.heap.size (.int .i64 0) (.int .i64 0) (.int .i64 0) (.int .i64 0) (.int .i64 0) (.int .i64 0) (.string ⟨#[]⟩) (.slice none 0 0) ∧ F8 w1 w.heap.size) := Lib.hid ⟨⟨keep_fresh b1 0 rfl, keep_fresh b1 1 rfl, keep_fresh b1 2 rfl, keep_fresh b1 3 rfl, keep_fresh b1 4 rfl, keep_fresh b1 5 rfl, keep_fresh b1 6 rfl, keep_fresh b1 7 rfl⟩, fresh_frozen b1 0, fresh_frozen b1 1, fresh_frozen b1 2, fresh_frozen b1 3, fresh_frozen b1 4, fresh_frozen b1 5, fresh_frozen b1 6, fresh_frozen b1 7⟩
  have h1 : Below w.heap.size w w1 := ((Below.refl _ _).alloc (Nat.le_refl _) _).trans (b1.mono (by simp))
  have z1 : w.heap.size < w1.heap.size := by have := b1.size; simp at this; omega
  clear b1
  obtain ⟨A, cap, rfl, hA, hcm⟩ := tok_shape hrow
  unfold maxLen at hcm
  have HA := Lib.hid hA
  have H1 := Lib.hid h1
  clear hrow hA h1
  go_wp2_with fail
  obtain ⟨w2, hw2⟩ : ∃ w2, w2 = w1.alloc (.cells #[.slice A L.length cap, .int .i64 0, .int .i64 (s.size : Int), .bool false, .int .i64 0] 67) := ⟨_, rfl⟩
  rw [← hw2]
  have hb2 : Below w1.heap.size w1 w2 := by rw [hw2]; exact (Below.refl _ _).alloc (Nat.le_refl _) _
  have HR2 : Hid (RS w2 w1.heap.size A cap L s.size (.run 0)) := Lib.hid (by rw [hw2]; exact ⟨Nat.zero_le _, 0, ⟨by simp [go_sem], by simp [go_sem], by simp [go_sem], by simp [go_sem], by simp [go_sem], by simp [go_sem], by simp [go_sem], by simp [go_sem]⟩⟩)
  have z2 : w1.heap.size < w2.heap.size := by rw [hw2]; simp
  have HT2 : Hid (TK w2 w1.heap.size A L) := Lib.hid (by
    by_cases hl : L = []
    · exact .inl hl
    · obtain ⟨gg, hgA, hgl, _, hat⟩ := HA.out hl
      exact .inr ⟨gg, hgA, by omega, by omega, hat.but (R := w1.heap.size) (But.of_below hb2) (by omega)⟩)
  have HB2 : Hid (But w1.heap.size w w2) := Lib.hid ((But.of_below H1.out).trans (But.of_below hb2))
  have HK2 : Hid (C8 w2 w.heap.size (.int .i64 0) (.int .i64 0) (.int .i64 0) (.int .i64 0) (.int .i64 0) (.int .i64 0) (.string ⟨#[]⟩) (.slice none 0 0) ∧ F8 w2 w.heap.size) := Lib.hid ⟨c8_liftB (fun q v hv => keep_cell hb2 hv) HK1.out.1, f8_liftB (fun q hv => keep_frozen hb2 z1 hv) HK1.out.2⟩
  clear hb2 hw2 HK1 H1 HA
  refine (HL.out w1.heap.size A cap w2 (.run 0) _ HR2.out HT2.out HGT.out).mono ?_; rintro e w3 ⟨⟨c0, c1, c2, c3, c4, c5, cw, cA, cl, cc⟩, rfl, v3, r3, b3⟩
  have nK : w.heap.size ≠ w1.heap.size := by omega
  have zK2 : w.heap.size < w2.heap.size := by omega
  have HB3 : Hid (But w1.heap.size w w3) := Lib.hid (HB2.out.trans b3)
  have z3 : w1.heap.size < w3.heap.size := Nat.lt_of_lt_of_le z2 b3.size
  have zK3 : w.heap.size < w3.heap.size := by omega
  have HK3 : Hid (C8 w3 w.heap.size (.int .i64 0) (.int .i64 0) (.int .i64 0) (.int .i64 0) (.int .i64 0) (.int .i64 0) (.string ⟨#[]⟩) (.slice none 0 0) ∧ F8 w3 w.heap.size) := Lib.hid ⟨c8_liftB (fun q v hv => b3.cell nK hv) HK2.out.1, f8_liftB (fun q hv => b3.frozen nK zK2 hv) HK2.out.2⟩
  have HT3 : Hid (TK w3 w1.heap.size A L) := Lib.hid (HT2.out.but b3)
  have z23 : w2.heap.size ≤ w3.heap.size := b3.size
  have HV3 := Lib.hid v3
  clear v3 HK2 HR2 HT2 HB2 b3
  obtain ⟨hql, x', hc⟩ := r3
  have r0 := hc.c1
  have r3' := hc.c3
  clear hc
  obtain ⟨A', ca', hx, hkv⟩ := HV3.out
  obtain ⟨rfl, rfl, rfl, rfl, rfl, rfl, rfl, rfl, rfl, rfl⟩ : c0 = t.kind ∧ c1 = t.num ∧ c2 = t.c1 ∧ c3 = t.r1 ∧ c4 = t.c2 ∧ c5 = t.r2 ∧ cw = ⟨t.word.toArray⟩ ∧ cA = A' ∧ cl = t.kids.length ∧ cc = ca' := by
    unfold tv8 at hx
    injection hx with h0 h1 h2 h3 h4 h5 h6 h7 h8 h9
    exact ⟨h0, h1, h2, h3, h4, h5, h6, h7, h8, h9⟩
  clear hx HV3
  have hlen := hw.len
  unfold maxLen at hlen
  have HKV := Lib.hid hkv
  have HD := Lib.hid (fun w hA => rdeep_any _ t (Nat.le_refl _) hd hw w (fun b => w2.heap.size ≤ b) cA cc hA)
  unfold tv at HD
  clear hkv hw
  dsimp only [V8.val]
  have dp : decide ((L.length : Int) < (L.length : Int)) = false := decide_eq_false (by omega)
  go_wp2_with fail
  clear r0 r3'
  obtain ⟨w4, hw4⟩ : ∃ w4, w4 = w3.alloc (.cells #[.int .i64 t.kind, .int .i64 t.num, .int .i64 t.c1, .int .i64 t.r1, .int .i64 t.c2, .int .i64 t.r2, .string ⟨t.word.toArray⟩, .slice cA t.kids.length cc] 29) := ⟨_, rfl⟩
  rw [← hw4]
  have hb4 : Below w3.heap.size w3 w4 := by rw [hw4]; exact (Below.refl _ _).alloc (Nat.le_refl _) _
  have HX4 : Hid (C8 w4 w3.heap.size (.int .i64 t.kind) (.int .i64 t.num) (.int .i64 t.c1) (.int .i64 t.r1) (.int .i64 t.c2) (.int .i64 t.r2) (.string ⟨t.word.toArray⟩) (.slice cA t.kids.length cc)) := Lib.hid (by rw [hw4]; exact cells8_of' (heap_alloc_new w3 _))
  have z4 : w3.heap.size < w4.heap.size := by rw [hw4]; simp
  clear hw4
  refine (HD.out w4 (HKV.out.kept (Kept.of_below hb4))).mono ?_; rintro e w5 ⟨rfl, b5⟩
  have hb35 : Below w3.heap.size w3 w5 := hb4.trans (b5.mono hb4.size)
  have HB5 : Hid (But w1.heap.size w w5) := Lib.hid (HB3.out.trans (But.of_below hb35))
  have z45 := b5.size
  have zK5 : w.heap.size < w5.heap.size := by omega
  have zX5 : w3.heap.size < w5.heap.size := by omega
  have HK5 : Hid (C8 w5 w.heap.size (.int .i64 0) (.int .i64 0) (.int .i64 0) (.int .i64 0) (.int .i64 0) (.int .i64 0) (.string ⟨#[]⟩) (.slice none 0 0) ∧ F8 w5 w.heap.size) := Lib.hid ⟨c8_liftB (fun q v hv => keep_cell hb35 hv) HK3.out.1, f8_liftB (fun q hv => keep_frozen hb35 zK3 hv) HK3.out.2⟩
  have HKV5 := Lib.hid (HKV.out.kept (Kept.of_below hb35))
  have HX5 : C8 w5 w3.heap.size (.int .i64 t.kind) (.int .i64 t.num) (.int .i64 t.c1) (.int .i64 t.r1) (.int .i64 t.c2) (.int .i64 t.r2) (.string ⟨t.word.toArray⟩) (.slice cA t.kids.length cc) := c8_liftB (fun q v hv => keep_cell b5 hv) HX4.out
  obtain ⟨x0, x1, x2, x3, x4, x5, x6, x7⟩ := HX5
  clear hb4 b5 hb35 HK3 HB3 HT3 HX4 HKV
  obtain ⟨⟨k0, k1, k2, k3, k4, k5, k6, k7⟩, f0, f1, f2, f3, f4, f5, f6, f7⟩ := HK5.out
  go_wp2_with fail
  exact bodyPost_ret (v := .tuple #[.agg #[.int .i64 t.kind, .int .i64 t.num, .int .i64 t.c1, .int .i64 t.r1, .int .i64 t.c2, .int .i64 t.r2, .string ⟨t.word.toArray⟩, .slice cA t.kids.length cc], .int .i64 0, .int .i64 0]) (by simp [results, Tryd.results23, go_sem, k0, k1, k2, k3, k4, k5, k6, k7, x0, x1, x2, x3, x4, x5, x6, x7, zK5, zX5]) rfl ⟨⟨cA, cc, rfl, by
    refine KV.imp (fun b (hb : w2.heap.size ≤ b) => by show w.heap.size ≤ b; omega) (HKV5.out.kept ?_)
    with_reducible repeat' (first | exact Kept.refl _ _ | refine Kept.alloc ?_ _ | refine Kept.set ?_ (.inl (by show ¬ (w2.heap.size ≤ w.heap.size); omega)) _ _)⟩, by
    have hb := HB5.out.below (n := w.heap.size) (by omega) (Nat.le_refl _)
    with_reducible repeat' (first | exact hb | refine Below.setCell ?_ (by exact Nat.le_refl w.heap.size) _ | refine Below.alloc ?_ (by first | omega | (simp; omega)) _)⟩
theorem rparse_any (s : ByteArray) (hs : s.size ≤ 9223372036854775807) (w : World) :
    Calls Tryd.prog 23 #[.string s] w (PostR w (parseL s.data.toList)) := by
  have hlen : s.data.toList.length = s.size := len_of s
  unfold parseL
  rw [hlen]
  by_cases h0 : ansE s.data.toList = 0
  · rw [if_neg (fun h => h h0)]
    have hl : s.data.toList.length ≤ 200 := by
      rcases Nat.lt_or_ge 200 s.data.toList.length with h | h
      · have e3 : ansE s.data.toList = 3 := if_pos h
        rw [e3] at h0; cases h0
      · exact h
    have hG := good_ans h0 hl
    have hL := ans_len s.data.toList
    obtain ⟨res, ht, hq⟩ := tree_some (ansL s.data.toList) s.size
    rw [ht]
    cases res with
    | bad z => exact rparse_bad s hs w h0 hL hG ht
    | ok t q =>
      dsimp only
      by_cases h1 : q < (ansL s.data.toList).length
      · rw [if_pos h1]
        exact rparse_more s hs w h0 hL hG h1 ht
      · rw [if_neg h1]
        have hqe : q = (ansL s.data.toList).length := by have := hq t q rfl; omega
        subst hqe
        obtain ⟨hw, hd⟩ := tree_wid hL ht
        by_cases h6 : 16 < deepT t
        · rw [if_pos h6]
          exact rparse_deep s hs w h0 hL hG hw hd (decide_eq_true (by omega)) ht
        · rw [if_neg h6]
          exact rparse_good s hs w h0 hL hG hw hd (decide_eq_false (by omega)) ht
  · rw [if_pos h0]
    exact rparse_err s hs w (by rw [bne_iff_ne]; exact h0) rfl rfl
end Go.Proofs.YteflmfifhmlpiaaDoor
namespace Go.Proofs.YteflmfifhmlpiaaDoor
open Go.RowKit

mutual
def okB : Tr → Bool
  | .mk _ n _ _ _ _ _ ks => decide (n ≤ 9223372036854775807) && decide (ks.length ≤ 1000000) && okLB ks
def okLB : List Tr → Bool
  | [] => true
  | t :: ts => okB t && okLB ts
end
mutual
theorem ok_wf : ∀ {t : Tr}, okB t = true → Wid t ∧ Fit t
  | .mk k n c r d s w ks, h => by
    rw [okB, Bool.and_eq_true, Bool.and_eq_true, decide_eq_true_iff, decide_eq_true_iff] at h
    have hl := okL_wf h.2
    exact ⟨.mk (Nat.le_trans h.1.2 (by decide)) fun t ht => (hl t ht).1, .mk h.1.1 fun t ht => (hl t ht).2⟩
theorem okL_wf : ∀ {l : List Tr}, okLB l = true → ∀ t ∈ l, Wid t ∧ Fit t
  | [], _, t, ht => by cases ht
  | u :: us, h, t, ht => by
    rw [okLB, Bool.and_eq_true] at h
    rcases List.mem_cons.1 ht with e | ht
    · rw [e]; exact ok_wf h.1
    · exact okL_wf h.2 t ht
end
def tx6 : List UInt8 := [83, 85, 77, 40, 66, 50, 58, 67, 50, 44, 66, 50, 41, 43, 65, 49, 42, 35, 82, 69, 70]
def tr6 : Tr := opT [43] (callT [83, 85, 77] [spanT 1 1 2 1, readT 1 1]) (opT [42] (readT 0 0) badT)
def tu6 : Tr := opT [43] (callT [83, 85, 77] [spanT 1 0 2 0, readT 1 0]) (opT [42] badT badT)
theorem live_p : parseL tx6 = .good tr6 := by kernel_rfl
theorem live_s : shB (rightP tr6) 0 (-1) tr6 = tu6 := by kernel_rfl
theorem live_e : erB (rightP tr6) = 0 := by kernel_rfl
theorem live_r : rdL tr6 = [(0, 0), (1, 1), (2, 1)] := by kernel_rfl
theorem live_u : usV 1 1 tr6 = true := by kernel_rfl
theorem live_b : bdV tu6 = 2 := by kernel_rfl
theorem live_z : szV tu6 = 7 := by kernel_rfl
theorem live_t : txT tu6 = [83, 85, 77, 40, 66, 49, 58, 67, 49, 44, 66, 49, 41, 43, 35, 82, 69, 70, 42, 35, 82, 69, 70] := by kernel_rfl
theorem live_q : rightP tu6 = true := by kernel_rfl
theorem live_g : GT tr6 := ⟨(ok_wf (t := tr6) (by decide)).1, (ok_wf (t := tr6) (by decide)).2, by decide, by decide⟩
theorem live_h : GT tu6 := ⟨(ok_wf (t := tu6) (by decide)).1, (ok_wf (t := tu6) (by decide)).2, by decide, by decide⟩
set_option maxHeartbeats 8000000 in
set_option maxRecDepth 100000 in
theorem shalive (w : World) {B : Nat} (hSB : B ≤ w.heap.size) (hSt : Strs B B w) :
    Calls Tryd.prog 6 #[] w fun e w' => e = .returned (.bool true) ∧ Below w.heap.size w w' := by
  have HS := Lib.hid (fun w1 (hb : Below w.heap.size w w1) => And.intro (Nat.le_trans hSB hb.size) (hSt.later hSB hb))
  have HP := Lib.hid (fun w => (rparse_any ⟨tx6.toArray⟩ (by decide) w).mono (R' := fun e w' => ∃ A ca, e = .returned (.tuple #[.agg #[.int .i64 tr6.kind, .int .i64 tr6.num, .int .i64 tr6.c1, .int .i64 tr6.r1, .int .i64 tr6.c2, .int .i64 tr6.r2, .string ⟨tr6.word.toArray⟩, .slice A tr6.kids.length ca], .int .i64 0, .int .i64 0]) ∧ KV w' (fun _ => True) tr6 A ∧ Below w.heap.size w w') fun e w' hp => by
    rw [show (⟨tx6.toArray⟩ : ByteArray).data.toList = tx6 from rfl, live_p] at hp
    obtain ⟨⟨A, ca, he, hk⟩, hb⟩ := hp
    exact ⟨A, ca, he, hk.imp fun _ _ => trivial, hb⟩)
  have HR := Lib.hid (fun w A ca hA B h1 h2 => sReads live_g w A ca hA (B := B) h1 h2)
  rw [live_r] at HR
  have HSh := Lib.hid (fun w A ca hA B h1 h2 => sShift live_g w A ca hA (B := B) h1 h2 0 (-1) (by unfold B63; omega) (by unfold B63; omega))
  rw [live_s, live_e] at HSh
  have HPr := Lib.hid (fun w A ca hA => rprint_yes tu6 live_h.wid live_h.fit live_h.deep live_q (by rw [live_t]; decide) w A ca hA)
  rw [live_t] at HPr
  have HBd := Lib.hid (fun w A ca hA B h1 h2 => sBads live_h w A ca hA (B := B) h1 h2)
  rw [live_b] at HBd
  have HSz := Lib.hid (fun w A ca hA B h1 h2 => sSize live_h w A ca hA (B := B) h1 h2)
  rw [live_z] at HSz
  have HUs := Lib.hid (fun w A ca hA B h1 h2 => sUses live_g w A ca hA (B := B) h1 h2 1 1)
  rw [live_u] at HUs
  unfold tx6 at HP
  clear hSB hSt
  have hl1 := live_g.wid.len
  have hl2 := live_h.wid.len
  unfold maxLen at hl1 hl2
  unfold tv at *
  generalize tr6 = T at *
  generalize tu6 = U at *
  go_enter Tryd.func6, Tryd.ntmps6
  go_wp2_with fail
  refine (HP.out _).mono ?_; rintro e w1 ⟨A, ca, rfl, ht, b1⟩
  have H1 := Lib.hid (belowAlloc b1 b1.size (.cells #[.int .i64 T.kind, .int .i64 T.num, .int .i64 T.c1, .int .i64 T.r1, .int .i64 T.c2, .int .i64 T.r2, .string ⟨T.word.toArray⟩, .slice A T.kids.length ca] 29))
  have C1 := Lib.hid (Here.new w1 T A ca)
  have K1 : Hid (KV (w1.alloc (.cells #[.int .i64 T.kind, .int .i64 T.num, .int .i64 T.c1, .int .i64 T.r1, .int .i64 T.c2, .int .i64 T.r2, .string ⟨T.word.toArray⟩, .slice A T.kids.length ca] 29)) (fun _ => True) T A) := Lib.hid (ht.kept (Kept.of_below ((Below.refl _ _).alloc (Nat.le_refl _) _)))
  clear b1 ht
  go_wp2_with fail
  refine (HR.out _ A ca K1.out B (HS.out _ H1.out).1 (HS.out _ H1.out).2).mono ?_; rintro e w2 ⟨rv, rfl, hrow, b2⟩
  have H2 := Lib.hid (H1.out.trans (b2.mono H1.out.size))
  have C2 := Lib.hid (C1.out.below b2)
  have K2 := Lib.hid (K1.out.kept (Kept.of_below b2))
  obtain ⟨RA, rc, rfl, hat⟩ := own_shape (l := [(0, 0), (1, 1), (2, 1)]) hrow
  obtain ⟨g, rfl, hgl, hat⟩ := hat 0 (by decide)
  have L2 := Lib.hid (And.intro (hat 0 0 0 rfl) (And.intro (hat 1 1 1 rfl) (hat 2 2 1 rfl)))
  clear b2 H1 C1 K1 hrow hat
  obtain ⟨c0, c1, c2, c3, c4, c5, c6, c7⟩ := C2.out
  go_wp2_with fail
  refine (HSh.out _ A ca K2.out B (HS.out _ H2.out).1 (HS.out _ H2.out).2).mono ?_; rintro e w3 ⟨⟨A', ca', rfl, hu⟩, b3⟩
  have hu2 : KV w3 (fun _ => True) U A' := hu.imp fun _ _ => trivial
  have H3 := Lib.hid (belowAlloc (H2.out.trans (b3.mono H2.out.size)) (Nat.le_trans H2.out.size b3.size) (.cells #[.int .i64 U.kind, .int .i64 U.num, .int .i64 U.c1, .int .i64 U.r1, .int .i64 U.c2, .int .i64 U.r2, .string ⟨U.word.toArray⟩, .slice A' U.kids.length ca'] 29))
  have C3 := Lib.hid ((C2.out.below b3).alloc (.cells #[.int .i64 U.kind, .int .i64 U.num, .int .i64 U.c1, .int .i64 U.r1, .int .i64 U.c2, .int .i64 U.r2, .string ⟨U.word.toArray⟩, .slice A' U.kids.length ca'] 29))
  have K3 : Hid (KV (w3.alloc (.cells #[.int .i64 U.kind, .int .i64 U.num, .int .i64 U.c1, .int .i64 U.r1, .int .i64 U.c2, .int .i64 U.r2, .string ⟨U.word.toArray⟩, .slice A' U.kids.length ca'] 29)) (fun _ => True) T A) := Lib.hid ((K2.out.kept (Kept.of_below b3)).kept (Kept.of_below ((Below.refl _ _).alloc (Nat.le_refl _) _)))
  have D3 := Lib.hid (Here.new w3 U A' ca')
  have M3 : Hid (KV (w3.alloc (.cells #[.int .i64 U.kind, .int .i64 U.num, .int .i64 U.c1, .int .i64 U.r1, .int .i64 U.c2, .int .i64 U.r2, .string ⟨U.word.toArray⟩, .slice A' U.kids.length ca'] 29)) (fun _ => True) U A') := Lib.hid (hu2.kept (Kept.of_below ((Below.refl _ _).alloc (Nat.le_refl _) _)))
  have b3' : Below w2.heap.size w2 (w3.alloc (.cells #[.int .i64 U.kind, .int .i64 U.num, .int .i64 U.c1, .int .i64 U.r1, .int .i64 U.c2, .int .i64 U.r2, .string ⟨U.word.toArray⟩, .slice A' U.kids.length ca'] 29)) := b3.alloc b3.size _
  have L3 := Lib.hid (And.intro (And.intro (keep_cell b3' L2.out.1.1) (keep_cell b3' L2.out.1.2)) (And.intro (And.intro (keep_cell b3' L2.out.2.1.1) (keep_cell b3' L2.out.2.1.2)) (And.intro (keep_cell b3' L2.out.2.2.1) (keep_cell b3' L2.out.2.2.2))))
  clear b3 b3' H2 C2 K2 L2 hu hu2 c0 c1 c2 c3 c4 c5 c6 c7 hgl
  obtain ⟨c0, c1, c2, c3, c4, c5, c6, c7⟩ := D3.out
  go_wp2_with fail
  refine (HPr.out _ A' ca' M3.out).mono ?_; rintro e wk ⟨rfl, b4⟩
  have H4 := Lib.hid (H3.out.trans (b4.mono H3.out.size))
  have C4 := Lib.hid (C3.out.below b4)
  have K4 := Lib.hid (K3.out.kept (Kept.of_below b4))
  have D4 := Lib.hid (D3.out.below b4)
  have M4 := Lib.hid (M3.out.kept (Kept.of_below b4))
  have L4 := Lib.hid (And.intro (And.intro (keep_cell b4 L3.out.1.1) (keep_cell b4 L3.out.1.2)) (And.intro (And.intro (keep_cell b4 L3.out.2.1.1) (keep_cell b4 L3.out.2.1.2)) (And.intro (keep_cell b4 L3.out.2.2.1) (keep_cell b4 L3.out.2.2.2))))
  clear b4 H3 C3 K3 D3 M3 L3 c0 c1 c2 c3 c4 c5 c6 c7
  have HL : Hid (∀ w', Below wk.heap.size wk w' → (w'.cell? ⟨w3.heap.size, 0, none⟩ = some (.int .i64 U.kind) ∧ w'.cell? ⟨w3.heap.size, 1, none⟩ = some (.int .i64 U.num) ∧ w'.cell? ⟨w3.heap.size, 2, none⟩ = some (.int .i64 U.c1) ∧ w'.cell? ⟨w3.heap.size, 3, none⟩ = some (.int .i64 U.r1) ∧ w'.cell? ⟨w3.heap.size, 4, none⟩ = some (.int .i64 U.c2) ∧ w'.cell? ⟨w3.heap.size, 5, none⟩ = some (.int .i64 U.r2) ∧ w'.cell? ⟨w3.heap.size, 6, none⟩ = some (.string ⟨U.word.toArray⟩) ∧ w'.cell? ⟨w3.heap.size, 7, none⟩ = some (.slice A' U.kids.length ca')) ∧ (w'.cell? ⟨w1.heap.size, 0, none⟩ = some (.int .i64 T.kind) ∧ w'.cell? ⟨w1.heap.size, 1, none⟩ = some (.int .i64 T.num) ∧ w'.cell? ⟨w1.heap.size, 2, none⟩ = some (.int .i64 T.c1) ∧ w'.cell? ⟨w1.heap.size, 3, none⟩ = some (.int .i64 T.r1) ∧ w'.cell? ⟨w1.heap.size, 4, none⟩ = some (.int .i64 T.c2) ∧ w'.cell? ⟨w1.heap.size, 5, none⟩ = some (.int .i64 T.r2) ∧ w'.cell? ⟨w1.heap.size, 6, none⟩ = some (.string ⟨T.word.toArray⟩) ∧ w'.cell? ⟨w1.heap.size, 7, none⟩ = some (.slice A T.kids.length ca)) ∧ w'.cell? ⟨g, 0, none⟩ = some (.int .i64 0) ∧ w'.cell? ⟨g, 1, none⟩ = some (.int .i64 0) ∧ w'.cell? ⟨g, 2, none⟩ = some (.int .i64 1) ∧ w'.cell? ⟨g, 3, none⟩ = some (.int .i64 1) ∧ w'.cell? ⟨g, 4, none⟩ = some (.int .i64 2) ∧ w'.cell? ⟨g, 5, none⟩ = some (.int .i64 1)) := Lib.hid fun w' hb => ⟨D4.out.below hb, C4.out.below hb, keep_cell hb L4.out.1.1, keep_cell hb L4.out.1.2, keep_cell hb L4.out.2.1.1, keep_cell hb L4.out.2.1.2, keep_cell hb L4.out.2.2.1, keep_cell hb L4.out.2.2.2⟩
  have HU := Lib.hid (fun w' (hb : Below wk.heap.size wk w') => M4.out.kept (Kept.of_below hb))
  have HT := Lib.hid (fun w' (hb : Below wk.heap.size wk w') => K4.out.kept (Kept.of_below hb))
  have HW := Lib.hid (fun w' (hb : Below wk.heap.size wk w') => HS.out w' (H4.out.trans (hb.mono H4.out.size)))
  clear C4 K4 D4 M4 L4
  go_wp2_with fail
  go_region_held3 (fun w' => (w'.cell? ⟨w3.heap.size, 0, none⟩ = some (.int .i64 U.kind) ∧ w'.cell? ⟨w3.heap.size, 1, none⟩ = some (.int .i64 U.num) ∧ w'.cell? ⟨w3.heap.size, 2, none⟩ = some (.int .i64 U.c1) ∧ w'.cell? ⟨w3.heap.size, 3, none⟩ = some (.int .i64 U.r1) ∧ w'.cell? ⟨w3.heap.size, 4, none⟩ = some (.int .i64 U.c2) ∧ w'.cell? ⟨w3.heap.size, 5, none⟩ = some (.int .i64 U.r2) ∧ w'.cell? ⟨w3.heap.size, 6, none⟩ = some (.string ⟨U.word.toArray⟩) ∧ w'.cell? ⟨w3.heap.size, 7, none⟩ = some (.slice A' U.kids.length ca')) ∧ (w'.cell? ⟨w1.heap.size, 0, none⟩ = some (.int .i64 T.kind) ∧ w'.cell? ⟨w1.heap.size, 1, none⟩ = some (.int .i64 T.num) ∧ w'.cell? ⟨w1.heap.size, 2, none⟩ = some (.int .i64 T.c1) ∧ w'.cell? ⟨w1.heap.size, 3, none⟩ = some (.int .i64 T.r1) ∧ w'.cell? ⟨w1.heap.size, 4, none⟩ = some (.int .i64 T.c2) ∧ w'.cell? ⟨w1.heap.size, 5, none⟩ = some (.int .i64 T.r2) ∧ w'.cell? ⟨w1.heap.size, 6, none⟩ = some (.string ⟨T.word.toArray⟩) ∧ w'.cell? ⟨w1.heap.size, 7, none⟩ = some (.slice A T.kids.length ca)) ∧ w'.cell? ⟨g, 0, none⟩ = some (.int .i64 0) ∧ w'.cell? ⟨g, 1, none⟩ = some (.int .i64 0) ∧ w'.cell? ⟨g, 2, none⟩ = some (.int .i64 1) ∧ w'.cell? ⟨g, 3, none⟩ = some (.int .i64 1) ∧ w'.cell? ⟨g, 4, none⟩ = some (.int .i64 2) ∧ w'.cell? ⟨g, 5, none⟩ = some (.int .i64 1))
    (with_reducible exact HL.out _ (by with_reducible repeat' (first | exact Below.refl _ _ | exact B5 | exact B6 | exact B7 | refine Below.drew ?_)))
    (first
    | (go_at_call 13; refine (HUs.out _ A ca (HT.out _ B6) B (HW.out _ B6).1 (HW.out _ B6).2).mono ?_; rintro e w7 ⟨rfl, q7⟩
       have B7 : Below wk.heap.size wk w7 := B6.trans (q7.mono B6.size))
    | (go_at_call 17; refine (HSz.out _ A' ca' (HU.out _ B5) B (HW.out _ B5).1 (HW.out _ B5).2).mono ?_; rintro e w6 ⟨rfl, q6⟩
       have B6 : Below wk.heap.size wk w6 := B5.trans (q6.mono B5.size))
    | (go_at_call 15; refine (HBd.out _ A' ca' (HU.out _ (Below.refl _ wk).drew) B (HW.out _ (Below.refl _ wk).drew).1 (HW.out _ (Below.refl _ wk).drew).2).mono ?_; rintro e w5 ⟨rfl, q5⟩
       have B5 : Below wk.heap.size wk w5 := (Below.refl _ wk).drew.trans q5)
    | fail)
  go_wp2_with fail
  go_ret
  exact ⟨rfl, H4.out.trans (B7.mono H4.out.size)⟩
end Go.Proofs.YteflmfifhmlpiaaDoor
namespace Go.Proofs.YteflmfifhmlpiaaDoor
open Go.RowKit

theorem rsame_twin {t : Tr} (hd : deepT t ≤ 1000000000) (ht : Wid t) (w : World) (P Q : Nat → Prop) (A B : Option Addr) (ca cb : Nat) (hA : KV w P t A) (hB : KV w Q t B) :
    Calls Tryd.prog 9 #[tv t A ca, tv t B cb] w fun e w' => e = .returned (.bool true) ∧ Below w.heap.size w w' :=
  (rsame_any _ t t hd ht ht w P Q A B ca cb hA hB).mono fun e w' ⟨⟨b, he, hb⟩, h⟩ => ⟨by rw [he, hb.2 rfl], h⟩
set_option maxHeartbeats 8000000 in
set_option maxRecDepth 100000 in
theorem shtells_no (x y px py : Int) (t : Tr) (hW : Wid t) (hf : fitsB t = false) (w : World) (A : Option Addr) (ca : Nat) (hA : KV w (fun _ => True) t A) {B : Nat} (hSB : B ≤ w.heap.size) (hSt : Strs B B w) :
    Calls Tryd.prog 3 #[.agg #[.int .i64 t.kind, .int .i64 t.num, .int .i64 t.c1, .int .i64 t.r1, .int .i64 t.c2, .int .i64 t.r2, .string ⟨t.word.toArray⟩, .slice A t.kids.length ca], .agg #[.int .i64 x, .int .i64 y], .agg #[.int .i64 px, .int .i64 py]] w (Yes w) := by
  have HS := Lib.hid (fun w1 (hb : Below w.heap.size w w1) => And.intro (Nat.le_trans hSB hb.size) (hSt.later hSB hb))
  have HF := Lib.hid (fun w1 (hb : Below w.heap.size w w1) => lfits_any t hW w1 A ca (hA.kept (Kept.of_below hb)))
  have hlen := hW.len
  unfold maxLen at hlen
  rw [hf] at HF
  unfold tv at HF
  clear hSB hSt hA hW hf
  go_enter Tryd.func3, Tryd.ntmps3
  go_wp2_with fail
  refine (HF.out _ ((((Below.refl _ _).alloc (Nat.le_refl _) _).alloc (by simp) _).alloc (by simp; omega) _)).mono ?_; rintro e w1 ⟨rfl, b1⟩
  have H1 := Lib.hid (((((Below.refl _ _).alloc (Nat.le_refl _) _).alloc (by simp) _).alloc (by simp; omega) _ : Below w.heap.size w (((w.alloc _).alloc _).alloc _)).trans (b1.mono (by simp; omega)))
  clear b1
  go_wp2_with fail
  refine (shalive _ (HS.out _ H1.out).1 (HS.out _ H1.out).2).mono ?_; rintro e w2 ⟨rfl, b2⟩
  have H2 := Lib.hid (H1.out.trans (b2.mono H1.out.size))
  clear b2
  go_wp2_with fail
  go_ret
  exact ⟨rfl, H2.out⟩
set_option maxHeartbeats 8000000 in
set_option maxRecDepth 100000 in
theorem shtells_yes (x y px py : Int) (hx : B63 x) (hy : B63 y) (t : Tr) (hG : GT t) (hf : fitsB t = true) (w : World) (A : Option Addr) (ca : Nat) (hA : KV w (fun _ => True) t A) {B : Nat} (hSB : B ≤ w.heap.size) (hSt : Strs B B w) :
    Calls Tryd.prog 3 #[.agg #[.int .i64 t.kind, .int .i64 t.num, .int .i64 t.c1, .int .i64 t.r1, .int .i64 t.c2, .int .i64 t.r2, .string ⟨t.word.toArray⟩, .slice A t.kids.length ca], .agg #[.int .i64 x, .int .i64 y], .agg #[.int .i64 px, .int .i64 py]] w (Yes w) := by
  have HS := Lib.hid (fun w1 (hb : Below w.heap.size w w1) => And.intro (Nat.le_trans hSB hb.size) (hSt.later hSB hb))
  have HK := Lib.hid (fun w1 (hb : Below w.heap.size w w1) => hA.kept (Kept.of_below hb))
  have HF := Lib.hid (fun w1 (hb : Below w.heap.size w w1) => lfits_any t hG.wid w1 A ca (hA.kept (Kept.of_below hb)))
  have hlen := hG.wid.len
  unfold maxLen at hlen
  rw [hf] at HF
  have HSh := Lib.hid (fun w1 (hb : Below w.heap.size w w1) => sShift hG w1 A ca (HK.out w1 hb) (HS.out w1 hb).1 (HS.out w1 hb).2 x y hx hy)
  have HTh := Lib.hid (fun w1 (hb : Below w.heap.size w w1) => tShift hG w1 A ca (HK.out w1 hb) x y hx hy)
  have hGS := hG.sh x y
  have HSm := Lib.hid (fun w P Q A B ca cb hA hB => rsame_twin hGS.deep hGS.wid w P Q A B ca cb hA hB)
  have hls := hGS.wid.len
  unfold maxLen at hls
  have HRp := Lib.hid (fun w1 (hb : Below w.heap.size w w1) => sReads hG w1 A ca (HK.out w1 hb) (HS.out w1 hb).1 (HS.out w1 hb).2)
  have HRt := Lib.hid (fun w1 (hb : Below w.heap.size w w1) => tReads hG w1 A ca (HK.out w1 hb))
  have HUp := Lib.hid (fun w1 (hb : Below w.heap.size w w1) => sUses hG w1 A ca (HK.out w1 hb) (HS.out w1 hb).1 (HS.out w1 hb).2 px py)
  have HUt := Lib.hid (fun w1 (hb : Below w.heap.size w w1) => tUses hG w1 A ca (HK.out w1 hb) px py)
  have HBp := Lib.hid (fun w1 (hb : Below w.heap.size w w1) => sBads hG w1 A ca (HK.out w1 hb) (HS.out w1 hb).1 (HS.out w1 hb).2)
  have HBt := Lib.hid (fun w1 (hb : Below w.heap.size w w1) => tBads hG w1 A ca (HK.out w1 hb))
  have HZp := Lib.hid (fun w1 (hb : Below w.heap.size w w1) => sSize hG w1 A ca (HK.out w1 hb) (HS.out w1 hb).1 (HS.out w1 hb).2)
  have HZt := Lib.hid (fun w1 (hb : Below w.heap.size w w1) => tSize hG w1 A ca (HK.out w1 hb))
  have HAl := Lib.hid (fun w1 (hb : Below w.heap.size w w1) => shalive w1 (HS.out w1 hb).1 (HS.out w1 hb).2)
  unfold tv at *
  generalize shB (rightP t) x y t = S at *
  generalize erB (rightP t) = E at *
  generalize rdL t = L at *
  generalize usV px py t = M at *
  generalize (bdV t : Int) = N1 at *
  generalize (szV t : Int) = N2 at *
  clear hSB hSt hA hf hG hGS hx hy
  go_enter Tryd.func3, Tryd.ntmps3
  go_wp2_with fail
  refine (HF.out _ ((((Below.refl _ _).alloc (Nat.le_refl _) _).alloc (by simp) _).alloc (by simp; omega) _)).mono ?_; rintro e w1 ⟨rfl, b1⟩
  have H1 := Lib.hid (((((Below.refl _ _).alloc (Nat.le_refl _) _).alloc (by simp) _).alloc (by simp; omega) _ : Below w.heap.size w (((w.alloc _).alloc _).alloc _)).trans (b1.mono (by simp; omega)))
  have C1 : Hid (Here w1 w.heap.size t A ca) := Lib.hid (by refine ⟨?_, ?_, ?_, ?_, ?_, ?_, ?_, ?_⟩ <;> exact keep_cell b1 (by simp [go_sem]))
  have D1 : Hid (w1.cell? ⟨w.heap.size + 1, 0, none⟩ = some (.int .i64 x) ∧ w1.cell? ⟨w.heap.size + 1, 1, none⟩ = some (.int .i64 y)) := Lib.hid ⟨keep_cell b1 (by simp [go_sem]), keep_cell b1 (by simp [go_sem])⟩
  have P1 : Hid (w1.cell? ⟨w.heap.size + 1 + 1, 0, none⟩ = some (.int .i64 px) ∧ w1.cell? ⟨w.heap.size + 1 + 1, 1, none⟩ = some (.int .i64 py)) := Lib.hid ⟨keep_cell b1 (by simp [go_sem]), keep_cell b1 (by simp [go_sem])⟩
  clear b1
  obtain ⟨c0, c1, c2, c3, c4, c5, c6, c7⟩ := C1.out
  obtain ⟨d0, d1⟩ := D1.out
  go_wp2_with fail
  refine (HSh.out _ H1.out).mono ?_; rintro e w2 ⟨⟨A1, cu, rfl, hu⟩, b2⟩
  have b2' : Below w1.heap.size w1 (w2.alloc (.cells #[.int .i64 S.kind, .int .i64 S.num, .int .i64 S.c1, .int .i64 S.r1, .int .i64 S.c2, .int .i64 S.r2, .string ⟨S.word.toArray⟩, .slice A1 S.kids.length cu] 29)) := b2.alloc b2.size _
  have H2 := Lib.hid (H1.out.trans (b2'.mono H1.out.size))
  have C2 := Lib.hid (C1.out.below b2')
  have D2 := Lib.hid (And.intro (keep_cell b2' D1.out.1) (keep_cell b2' D1.out.2))
  have P2 := Lib.hid (And.intro (keep_cell b2' P1.out.1) (keep_cell b2' P1.out.2))
  have U2 := Lib.hid (Here.new w2 S A1 cu)
  have V2 : Hid (KV (w2.alloc (.cells #[.int .i64 S.kind, .int .i64 S.num, .int .i64 S.c1, .int .i64 S.r1, .int .i64 S.c2, .int .i64 S.r2, .string ⟨S.word.toArray⟩, .slice A1 S.kids.length cu] 29)) (fun _ => True) S A1) := Lib.hid (KV.imp (P := fun b => w1.heap.size ≤ b) (fun _ _ => trivial) (hu.kept (Kept.of_below ((Below.refl _ _).alloc (Nat.le_refl _) _))))
  clear b2 b2' hu C1 D1 P1 H1 c0 c1 c2 c3 c4 c5 c6 c7 d0 d1
  obtain ⟨c0, c1, c2, c3, c4, c5, c6, c7⟩ := C2.out
  obtain ⟨d0, d1⟩ := D2.out
  go_wp2_with fail
  refine (HTh.out _ H2.out).mono ?_; rintro e w3 ⟨⟨A2, cv, rfl, hv⟩, b3⟩
  have b3' : Below (w2.alloc (.cells #[.int .i64 S.kind, .int .i64 S.num, .int .i64 S.c1, .int .i64 S.r1, .int .i64 S.c2, .int .i64 S.r2, .string ⟨S.word.toArray⟩, .slice A1 S.kids.length cu] 29)).heap.size (w2.alloc (.cells #[.int .i64 S.kind, .int .i64 S.num, .int .i64 S.c1, .int .i64 S.r1, .int .i64 S.c2, .int .i64 S.r2, .string ⟨S.word.toArray⟩, .slice A1 S.kids.length cu] 29)) (w3.alloc (.cells #[.int .i64 S.kind, .int .i64 S.num, .int .i64 S.c1, .int .i64 S.r1, .int .i64 S.c2, .int .i64 S.r2, .string ⟨S.word.toArray⟩, .slice A2 S.kids.length cv] 29)) := b3.alloc b3.size _
  have H3 := Lib.hid (H2.out.trans (b3'.mono H2.out.size))
  have C3 := Lib.hid (C2.out.below b3')
  have P3 := Lib.hid (And.intro (keep_cell b3' P2.out.1) (keep_cell b3' P2.out.2))
  have U3 := Lib.hid (U2.out.below b3')
  have V3 := Lib.hid (V2.out.kept (Kept.of_below b3'))
  have X3 := Lib.hid (Here.new w3 S A2 cv)
  have Y3 : Hid (KV (w3.alloc (.cells #[.int .i64 S.kind, .int .i64 S.num, .int .i64 S.c1, .int .i64 S.r1, .int .i64 S.c2, .int .i64 S.r2, .string ⟨S.word.toArray⟩, .slice A2 S.kids.length cv] 29)) (fun _ => True) S A2) := Lib.hid ((hv.imp fun _ _ => trivial).kept (Kept.of_below ((Below.refl _ _).alloc (Nat.le_refl _) _)))
  clear b3 b3' hv C2 D2 P2 H2 U2 V2 c0 c1 c2 c3 c4 c5 c6 c7 d0 d1
  obtain ⟨c0, c1, c2, c3, c4, c5, c6, c7⟩ := U3.out
  obtain ⟨d0, d1, d2, d3, d4, d5, d6, d7⟩ := X3.out
  go_wp2_with fail
  refine (HSm.out _ _ _ A1 A2 cu cv V3.out Y3.out).mono ?_; rintro e wk ⟨rfl, b4⟩
  have HB := Lib.hid (H3.out.trans (b4.mono H3.out.size))
  have C4 := Lib.hid (C3.out.below b4)
  have P4 := Lib.hid (And.intro (keep_cell b4 P3.out.1) (keep_cell b4 P3.out.2))
  clear b4 H3 C3 P3 U3 V3 X3 Y3 c0 c1 c2 c3 c4 c5 c6 c7 d0 d1 d2 d3 d4 d5 d6 d7
  have HL : Hid (∀ w', Below wk.heap.size wk w' → (w'.cell? ⟨w.heap.size, 0, none⟩ = some (.int .i64 t.kind) ∧ w'.cell? ⟨w.heap.size, 1, none⟩ = some (.int .i64 t.num) ∧ w'.cell? ⟨w.heap.size, 2, none⟩ = some (.int .i64 t.c1) ∧ w'.cell? ⟨w.heap.size, 3, none⟩ = some (.int .i64 t.r1) ∧ w'.cell? ⟨w.heap.size, 4, none⟩ = some (.int .i64 t.c2) ∧ w'.cell? ⟨w.heap.size, 5, none⟩ = some (.int .i64 t.r2) ∧ w'.cell? ⟨w.heap.size, 6, none⟩ = some (.string ⟨t.word.toArray⟩) ∧ w'.cell? ⟨w.heap.size, 7, none⟩ = some (.slice A t.kids.length ca)) ∧ w'.cell? ⟨w.heap.size + 1 + 1, 0, none⟩ = some (.int .i64 px) ∧ w'.cell? ⟨w.heap.size + 1 + 1, 1, none⟩ = some (.int .i64 py)) := Lib.hid fun w' hb => ⟨C4.out.below hb, keep_cell hb P4.out.1, keep_cell hb P4.out.2⟩
  have HW := Lib.hid (fun w' (hb : Below wk.heap.size wk w') => HB.out.trans (hb.mono HB.out.size))
  clear C4 P4
  go_wp2_with fail
  go_region_held3 (fun w' => (w'.cell? ⟨w.heap.size, 0, none⟩ = some (.int .i64 t.kind) ∧ w'.cell? ⟨w.heap.size, 1, none⟩ = some (.int .i64 t.num) ∧ w'.cell? ⟨w.heap.size, 2, none⟩ = some (.int .i64 t.c1) ∧ w'.cell? ⟨w.heap.size, 3, none⟩ = some (.int .i64 t.r1) ∧ w'.cell? ⟨w.heap.size, 4, none⟩ = some (.int .i64 t.c2) ∧ w'.cell? ⟨w.heap.size, 5, none⟩ = some (.int .i64 t.r2) ∧ w'.cell? ⟨w.heap.size, 6, none⟩ = some (.string ⟨t.word.toArray⟩) ∧ w'.cell? ⟨w.heap.size, 7, none⟩ = some (.slice A t.kids.length ca)) ∧ w'.cell? ⟨w.heap.size + 1 + 1, 0, none⟩ = some (.int .i64 px) ∧ w'.cell? ⟨w.heap.size + 1 + 1, 1, none⟩ = some (.int .i64 py))
    (with_reducible exact HL.out _ (by with_reducible repeat' (first | exact Below.refl _ _ | exact B5 | exact B6 | exact B7 | refine Below.drew ?_)))
    (first
    | (go_at_call 10; refine (rplaces_any L L (own_below hr5 q6) hr6).mono ?_; rintro e w7 ⟨he, n, rfl⟩; rw [decide_eq_true rfl] at he; subst he
       have B7 : Below wk.heap.size wk (w6.drewN n) := below_drewN B6 n
       clear hr5 hr6)
    | (go_at_call 12; refine (HRt.out _ (HW.out _ B5)).mono ?_; rintro e w6 ⟨v6, rfl, hr6, q6⟩
       have B6 : Below wk.heap.size wk w6 := B5.trans (q6.mono B5.size))
    | (go_at_call 11; refine (HRp.out _ (HW.out _ (Below.refl _ wk).drew)).mono ?_; rintro e w5 ⟨v5, rfl, hr5, q5⟩
       have B5 : Below wk.heap.size wk w5 := (Below.refl _ wk).drew.trans q5)
    | fail)
  go_wp2_with fail
  have hME : (M == M) = true := beq_self_eq_true M
  have hN1 : (N1 == N1) = true := beq_self_eq_true N1
  have hN2 : (N2 == N2) = true := beq_self_eq_true N2
  have hEE : (E == E) = true := beq_self_eq_true E
  go_region_held3 (fun w' => (w'.cell? ⟨w.heap.size, 0, none⟩ = some (.int .i64 t.kind) ∧ w'.cell? ⟨w.heap.size, 1, none⟩ = some (.int .i64 t.num) ∧ w'.cell? ⟨w.heap.size, 2, none⟩ = some (.int .i64 t.c1) ∧ w'.cell? ⟨w.heap.size, 3, none⟩ = some (.int .i64 t.r1) ∧ w'.cell? ⟨w.heap.size, 4, none⟩ = some (.int .i64 t.c2) ∧ w'.cell? ⟨w.heap.size, 5, none⟩ = some (.int .i64 t.r2) ∧ w'.cell? ⟨w.heap.size, 6, none⟩ = some (.string ⟨t.word.toArray⟩) ∧ w'.cell? ⟨w.heap.size, 7, none⟩ = some (.slice A t.kids.length ca)) ∧ w'.cell? ⟨w.heap.size + 1 + 1, 0, none⟩ = some (.int .i64 px) ∧ w'.cell? ⟨w.heap.size + 1 + 1, 1, none⟩ = some (.int .i64 py))
    (with_reducible exact HL.out _ (by with_reducible repeat' (first | exact Below.refl _ _ | exact B7 | exact B8 | exact B9 | exact B10 | exact B11 | exact B12 | exact B13 | exact B14 | refine Below.drew ?_)))
    (first
    | (go_at_call 18; refine (HZt.out _ (HW.out _ (B13))).mono ?_; rintro e w14 ⟨rfl, q14⟩
       have B14 : Below wk.heap.size wk w14 := (B13).trans (q14.mono (B13).size))
    | (go_at_call 17; refine (HZp.out _ (HW.out _ (B12))).mono ?_; rintro e w13 ⟨rfl, q13⟩
       have B13 : Below wk.heap.size wk w13 := (B12).trans (q13.mono (B12).size))
    | (go_at_call 16; refine (HBt.out _ (HW.out _ (B11))).mono ?_; rintro e w12 ⟨rfl, q12⟩
       have B12 : Below wk.heap.size wk w12 := (B11).trans (q12.mono (B11).size))
    | (go_at_call 15; refine (HBp.out _ (HW.out _ (B10))).mono ?_; rintro e w11 ⟨rfl, q11⟩
       have B11 : Below wk.heap.size wk w11 := (B10).trans (q11.mono (B10).size))
    | (go_at_call 14; refine (HUt.out _ (HW.out _ (B9))).mono ?_; rintro e w10 ⟨rfl, q10⟩
       have B10 : Below wk.heap.size wk w10 := (B9).trans (q10.mono (B9).size))
    | (go_at_call 13; refine (HUp.out _ (HW.out _ (B8))).mono ?_; rintro e w9 ⟨rfl, q9⟩
       have B9 : Below wk.heap.size wk w9 := (B8).trans (q9.mono (B8).size))
    | (go_at_call 6; refine (HAl.out _ (HW.out _ (B7.drew))).mono ?_; rintro e w8 ⟨rfl, q8⟩
       have B8 : Below wk.heap.size wk w8 := (B7.drew).trans (q8.mono (B7.drew).size))
    | fail)
  go_wp2_with fail
  go_ret
  exact ⟨rfl, HW.out _ B14⟩
theorem shtells_any (x y px py : Int) (hx : B63 x) (hy : B63 y) (_ : B63 px) (_ : B63 py) (t : Tr) (hW : Wid t) (hF : Fit t) (w : World) (A : Option Addr) (ca : Nat) (hA : KV w (fun _ => True) t A) (hSt : Strs w.heap.size w.heap.size w) :
    Calls Tryd.prog 3 #[tv t A ca, .agg #[.int .i64 x, .int .i64 y], .agg #[.int .i64 px, .int .i64 py]] w (Yes w) := by
  cases hf : fitsB t with
  | false => exact shtells_no x y px py t hW hf w A ca hA (Nat.le_refl _) hSt
  | true => exact shtells_yes x y px py hx hy t (GT.of hW hF hf) hf w A ca hA (Nat.le_refl _) hSt
end Go.Proofs.YteflmfifhmlpiaaDoor
