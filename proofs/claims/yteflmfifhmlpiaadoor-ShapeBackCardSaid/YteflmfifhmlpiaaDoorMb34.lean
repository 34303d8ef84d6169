/- Texts joined: RuA, SyR. -/
import Derived.Test.YteflmfifhmlpiaaDoorMb33
import Derived.Test.YteflmfifhmlpiaaDoorMb30
import Derived.Test.YteflmfifhmlpiaaDoorMa08
import Derived.Test.YteflmfifhmlpiaaDoorMa09
set_option linter.all false
set_option linter.unusedVariables false
set_option linter.unusedSimpArgs false
namespace Go.Proofs.YteflmfifhmlpiaaDoor
open Go.RowKit

theorem roper_run {R : Nat} {A : Option Addr} {cap : Nat} {L : List Tok} {E k : Nat} (hL : L.length ≤ 1000) (hk9 : k ≤ 100000)
    (hP : TreeC R A cap L E 41 #[.pointer (some ⟨R, 0, none⟩), .int .i64 1] (lineF L E k 1))
    (hI : ∀ c j, j ≤ k → TreeC R A cap L E 87 #[.pointer (some ⟨R, 0, none⟩), .bool c] (itemF L E j c)) :
    TreeC R A cap L E 77 #[.pointer (some ⟨R, 0, none⟩)] (operF L E (k + 1)) := by
  refine TreeC.of (roperand_out hL) fun w p g hr hk hg => ?_
  rw [operF] at hg
  cases hm : isMark L p [40] with
  | true =>
    rw [if_pos hm] at hg
    exact roper_brk R A cap L E hL w p hr hk hP g hm hg
  | false =>
    rw [if_neg (by rw [hm]; decide)] at hg
    cases ht : L[p]? with
    | none =>
      rw [ht] at hg
      obtain rfl : (.out E, none) = g := Option.some.inj hg
      have h := roper_off R A cap L E hL w p hr hk hm (fun h => by rw [List.getElem?_eq_getElem h] at ht; cases ht)
      rw [whr_none ht] at h
      exact h
    | some t =>
      rw [ht] at hg
      have hg2 : toS (if t.kind = 5 then some (.bad t.frm) else if t.kind = 1 then some (.ok (numT t.num) (p + 1)) else if t.kind = 2 then some (.ok (readT t.col t.row) (p + 1)) else if t.kind = 3 then some (.ok badT (p + 1))
        else mustF L E (p + 1) [40] fun q =>
          if t.text = [73, 70] then Res.next (lineF L E k 1 q) fun a q => mustF L E q [44] fun q => Res.next (lineF L E k 1 q) fun b q => mustF L E q [44] fun q => Res.next (lineF L E k 1 q) fun c q => mustF L E q [41] fun q => some (.ok (callT [73, 70] [a, b, c]) q)
          else itemsF L E k t.text [] q) = some g := hg
      clear hg
      by_cases k5 : t.kind = 5
      · rw [if_pos k5] at hg2
        obtain rfl : (.out t.frm, none) = g := Option.some.inj hg2
        have h := roper_five R A cap L E hL w p hr hk hm t ht (by rw [beq_iff_eq]; exact k5)
        rw [whr_some ht] at h
        exact h
      rw [if_neg k5] at hg2
      have b5 : (t.kind == 5) = false := by rw [beq_eq_false_iff_ne]; exact k5
      by_cases k1 : t.kind = 1
      · rw [if_pos k1] at hg2
        obtain rfl : (.run (p + 1), some (numT t.num)) = g := Option.some.inj hg2
        exact roper_num R A cap L E hL w p hr hk hm t ht b5 (by rw [beq_iff_eq]; exact k1)
      rw [if_neg k1] at hg2
      have b1 : (t.kind == 1) = false := by rw [beq_eq_false_iff_ne]; exact k1
      by_cases k2 : t.kind = 2
      · rw [if_pos k2] at hg2
        obtain rfl : (.run (p + 1), some (readT t.col t.row)) = g := Option.some.inj hg2
        exact roper_read R A cap L E hL w p hr hk hm t ht b5 b1 (by rw [beq_iff_eq]; exact k2)
      rw [if_neg k2] at hg2
      have b2 : (t.kind == 2) = false := by rw [beq_eq_false_iff_ne]; exact k2
      by_cases k3 : t.kind = 3
      · rw [if_pos k3] at hg2
        obtain rfl : (.run (p + 1), some badT) = g := Option.some.inj hg2
        exact roper_bad R A cap L E hL w p hr hk hm t ht b5 b1 b2 (by rw [beq_iff_eq]; exact k3)
      rw [if_neg k3] at hg2
      have b3 : (t.kind == 3) = false := by rw [beq_eq_false_iff_ne]; exact k3
      by_cases hw : t.text = [73, 70]
      · simp only [if_pos hw] at hg2
        exact roper_if R A cap L E hL w p hr hk hm t ht b5 b1 b2 b3 (by rw [beq_iff_eq]; exact hw) hP g hg2
      · simp only [if_neg hw] at hg2
        exact roper_items R A cap L E hL w p hr hk hm t ht b5 b1 b2 b3 (by rw [beq_eq_false_iff_ne]; exact hw) hk9 (fun j hj => hI _ j hj) g (must_goS hg2)
structure FamR (R : Nat) (A : Option Addr) (cap : Nat) (L : List Tok) (E k : Nat) : Prop where
  l4 : TreeC R A cap L E 41 #[.pointer (some ⟨R, 0, none⟩), .int .i64 4] (lineF L E k 4)
  l3 : TreeC R A cap L E 41 #[.pointer (some ⟨R, 0, none⟩), .int .i64 3] (lineF L E k 3)
  l2 : TreeC R A cap L E 41 #[.pointer (some ⟨R, 0, none⟩), .int .i64 2] (lineF L E k 2)
  l1 : TreeC R A cap L E 41 #[.pointer (some ⟨R, 0, none⟩), .int .i64 1] (lineF L E k 1)
  pref : TreeC R A cap L E 61 #[.pointer (some ⟨R, 0, none⟩)] (prefF L E k)
  oper : TreeC R A cap L E 77 #[.pointer (some ⟨R, 0, none⟩)] (operF L E k)
  item : ∀ c, TreeC R A cap L E 87 #[.pointer (some ⟨R, 0, none⟩), .bool c] (itemF L E k c)
theorem famR_zero (R : Nat) (A : Option Addr) (cap : Nat) (L : List Tok) (E : Nat) (hL : L.length ≤ 1000) : FamR R A cap L E 0 := by
  refine ⟨?_, ?_, ?_, ?_, ?_, ?_, fun c => ?_⟩
  · exact TreeC.of (rline_out4 hL) fun w p g _ _ hg => by rw [lineF] at hg; cases hg
  · exact TreeC.of (rline_out3 hL) fun w p g _ _ hg => by rw [lineF] at hg; cases hg
  · exact TreeC.of (rline_out2 hL) fun w p g _ _ hg => by rw [lineF] at hg; cases hg
  · exact TreeC.of (rline_out1 hL) fun w p g _ _ hg => by rw [lineF] at hg; cases hg
  · exact TreeC.of (rprefix_out hL) fun w p g _ _ hg => by rw [prefF] at hg; cases hg
  · exact TreeC.of (roperand_out hL) fun w p g _ _ hg => by rw [operF] at hg; cases hg
  · cases c
    · exact TreeC.of (ritem_out_false hL) fun w p g _ _ hg => by rw [itemF] at hg; cases hg
    · exact TreeC.of (ritem_out_true hL) fun w p g _ _ hg => by rw [itemF] at hg; cases hg
theorem famR_all {R : Nat} {A : Option Addr} {cap : Nat} {L : List Tok} {E : Nat} (hL : L.length ≤ 1000) (hG : GoodL L) : ∀ k, k ≤ 100000 → ∀ j, j ≤ k → FamR R A cap L E j
  | 0, _, j, hj => by
    obtain rfl : j = 0 := by omega
    exact famR_zero R A cap L E hL
  | k + 1, hk, j, hj => by
    have H := famR_all (R := R) (A := A) (cap := cap) (E := E) hL hG k (by omega)
    by_cases hjk : j ≤ k
    · exact H j hjk
    obtain rfl : j = k + 1 := by omega
    refine ⟨?_, ?_, ?_, ?_, ?_, ?_, fun c => ?_⟩
    · exact rline_run4 hL (H k (Nat.le_refl _)).pref
    · exact rline_runL 3 (by decide) (by decide) hL (rline_out3 hL) fun j hj => (H j hj).l4
    · exact rline_runL 2 (by decide) (by decide) hL (rline_out2 hL) fun j hj => (H j hj).l3
    · exact rline_runL 1 (by decide) (by decide) hL (rline_out1 hL) fun j hj => (H j hj).l2
    · exact rprefix_run hL (H k (Nat.le_refl _)).pref (H k (Nat.le_refl _)).oper
    · exact roper_run hL (by omega) (H k (Nat.le_refl _)).l1 fun c j hj => (H j hj).item c
    · cases c
      · exact ritem_run0 hL hG (H k (Nat.le_refl _)).l1
      · exact ritem_run1 hL hG
end Go.Proofs.YteflmfifhmlpiaaDoor
namespace Go.Proofs.YteflmfifhmlpiaaDoor

def GivD (D : Nat) (o : Option Res) : Prop := ∀ t q, o = some (.ok t q) → Wid t ∧ deepT t ≤ D
theorem GivD.ok {D : Nat} {t : Tr} {q : Nat} (h : Wid t) (hd : deepT t ≤ D) : GivD D (some (.ok t q)) := fun _ _ e => by cases e; exact ⟨h, hd⟩
theorem GivD.bad {D w : Nat} : GivD D (some (.bad w)) := fun _ _ e => by cases e
theorem GivD.le {D D' : Nat} {o : Option Res} (h : GivD D o) (hd : D ≤ D') : GivD D' o := fun t q e => ⟨(h t q e).1, Nat.le_trans (h t q e).2 hd⟩
theorem GivD.next {D D' : Nat} {a : Option Res} {f : Tr → Nat → Option Res} (h : GivD D a) (hf : ∀ t q, Wid t → deepT t ≤ D → GivD D' (f t q)) : GivD D' (Res.next a f) := fun t q e => by
  cases a with
  | none => cases e
  | some r =>
    cases r with
    | ok u p => exact hf u p (h u p rfl).1 (h u p rfl).2 t q e
    | bad w => cases e
theorem GivD.must {D : Nat} {L : List Tok} {E p : Nat} {s : List UInt8} {f : Nat → Option Res} (hf : ∀ q, GivD D (f q)) : GivD D (mustF L E p s f) := by
  unfold mustF
  split
  · exact hf _
  · exact .bad
theorem wid_leaf (k n c r d s : Int) (w : List UInt8) : Wid (.mk k n c r d s w []) := .mk (Nat.zero_le _) fun t h => by cases h
theorem deep_leaf (k n c r d s : Int) (w : List UInt8) : deepT (.mk k n c r d s w []) = 1 := by rw [deepT, deepL]
theorem wid_node {k n c r d s : Int} {w : List UInt8} {ks : List Tr} (hl : ks.length ≤ 1000000) (h : ∀ t ∈ ks, Wid t) : Wid (.mk k n c r d s w ks) := .mk (Nat.le_trans hl (by decide)) h
structure DAll (L : List Tok) (E k : Nat) : Prop where
  line : ∀ lev p, GivD (k * k + 1) (lineF L E k lev p)
  rest : ∀ lev out p m, Wid out → deepT out ≤ m → k * k + 1 ≤ m → GivD (m + k) (restF L E k lev out p)
  pref : ∀ p, GivD (k * k + 1) (prefF L E k p)
  oper : ∀ p, GivD (k * k + 1) (operF L E k p)
  items : ∀ w acc p m, (∀ t ∈ acc, Wid t) → deepL acc ≤ m → k * k + 1 ≤ m → acc.length + k ≤ 1000000 → GivD (m + 1) (itemsF L E k w acc p)
  item : ∀ c p, GivD (k * k + 1) (itemF L E k c p)
theorem d_all (L : List Tok) (E : Nat) : ∀ k, k ≤ 100000 → DAll L E k
  | 0, _ => by
    constructor <;> intros <;> first | (rw [lineF]; intro _ _ h; cases h) | (rw [restF]; intro _ _ h; cases h) | (rw [prefF]; intro _ _ h; cases h) | (rw [operF]; intro _ _ h; cases h) | (rw [itemsF]; intro _ _ h; cases h) | (rw [itemF]; intro _ _ h; cases h)
  | k + 1, hk => by
    have I := d_all L E k (by omega)
    have e : (k + 1) * (k + 1) + 1 = k * k + 1 + (2 * k + 1) := by rw [Nat.add_mul, Nat.mul_add]; omega
    have leaf : ∀ (a n c r d s : Int) (q : Nat), GivD ((k + 1) * (k + 1) + 1) (some (.ok (.mk a n c r d s [] []) q)) := fun a n c r d s q => .ok (wid_leaf _ _ _ _ _ _ _) (by rw [deep_leaf]; omega)
    constructor
    · intro lev p
      simp only [lineF]
      split
      · exact (I.pref p).le (by omega)
      · exact (I.line _ _).next fun t q hw hd => (I.rest lev t q _ hw hd (Nat.le_refl _)).le (by omega)
    · intro lev out p m hw hd hm
      simp only [restF]
      split
      · refine (I.line _ _).next fun t q hwt hdt => (I.rest lev _ q (m + 1) ?_ ?_ (by omega)).le (by omega)
        · exact wid_node (by simp) fun x hx => by
            simp only [List.mem_cons, List.not_mem_nil, or_false] at hx
            rcases hx with rfl | rfl
            · exact hw
            · exact hwt
        · show deepT (.mk _ _ _ _ _ _ _ [out, t]) ≤ _
          rw [deepT, deepL, deepL, deepL]
          omega
      · exact .ok hw (by omega)
    · intro p
      simp only [prefF]
      split
      · refine (I.pref _).next fun t q hw hd => .ok (wid_node (by simp) fun x hx => ?_) ?_
        · simp only [List.mem_cons, List.not_mem_nil, or_false] at hx
          rw [hx]; exact hw
        · show deepT (.mk _ _ _ _ _ _ _ [t]) ≤ _
          rw [deepT, deepL, deepL]
          omega
      · exact (I.oper p).le (by omega)
    · intro p
      simp only [operF]
      split
      · exact (I.line _ _).next fun t q hw hd => .must fun _ => .ok hw (by omega)
      · split
        · exact .bad
        · rename_i t ht
          split
          · exact .bad
          · split
            · exact leaf _ _ _ _ _ _ _
            · split
              · exact leaf _ _ _ _ _ _ _
              · split
                · exact leaf _ _ _ _ _ _ _
                · refine .must fun q => ?_
                  split
                  · refine (I.line _ _).next fun a q ha hda => .must fun q => (I.line _ _).next fun b q hb hdb => .must fun q => (I.line _ _).next fun c q hc hdc => .must fun q => .ok (wid_node (by simp) fun x hx => ?_) ?_
                    · simp only [List.mem_cons, List.not_mem_nil, or_false] at hx
                      rcases hx with rfl | rfl | rfl
                      · exact ha
                      · exact hb
                      · exact hc
                    · show deepT (.mk _ _ _ _ _ _ _ [a, b, c]) ≤ _
                      rw [deepT, deepL, deepL, deepL, deepL]
                      omega
                  · exact (I.items t.text [] q (k * k + 1) (fun x hx => by cases hx) (by rw [deepL]; omega) (Nat.le_refl _) (by simp; omega)).le (by omega)
    · intro w acc p m ha hd hm hl
      simp only [itemsF]
      refine (I.item _ _).next fun t q hw hdt => ?_
      have hall : ∀ x ∈ acc ++ [t], Wid x := fun x hx => by
        rcases List.mem_append.1 hx with h | h
        · exact ha x h
        · rw [List.mem_singleton.1 h]; exact hw
      have hda : deepL (acc ++ [t]) ≤ m := by rw [deep_snoc]; omega
      split
      · exact I.items w _ _ m hall hda (by omega) (by simp; omega)
      · refine .must fun _ => .ok (wid_node (by simp; omega) hall) ?_
        show deepT (.mk _ _ _ _ _ _ _ (acc ++ [t])) ≤ _
        rw [deepT]
        omega
    · intro c p
      simp only [itemF]
      split
      · exact (I.line 1 p).le (by omega)
      · split
        · exact .bad
        · split
          · exact .bad
          · split
            · exact leaf _ _ _ _ _ _ _
            · refine .must fun q => ?_
              split
              · exact .bad
              · split
                · exact .bad
                · split
                  · exact leaf _ _ _ _ _ _ _
                  · exact leaf _ _ _ _ _ _ _
theorem tree_wid {L : List Tok} {E : Nat} (hL : L.length ≤ 1000) {t : Tr} {q : Nat} (h : treeT L E = some (.ok t q)) : Wid t ∧ deepT t ≤ 1000000000 := by
  obtain ⟨a, b⟩ := (d_all L E (8 * L.length + 6) (by omega)).line 1 0 t q h
  refine ⟨a, Nat.le_trans b ?_⟩
  have : (8 * L.length + 6) * (8 * L.length + 6) ≤ 8006 * 8006 := Nat.mul_le_mul (by omega) (by omega)
  omega
inductive PRes where
  | good (t : Tr)
  | fail (a e : Int)
def parseL (l : List UInt8) : PRes :=
  if ansE l ≠ 0 then .fail (ansP l) (ansE l) else match treeT (ansL l) l.length with
    | none => .fail 0 0
    | some (.bad z) => .fail (z : Int) 2
    | some (.ok t q) => if q < (ansL l).length then .fail (whr (ansL l) l.length q : Int) 2 else if 16 < deepT t then .fail 0 6 else .good t
end Go.Proofs.YteflmfifhmlpiaaDoor
