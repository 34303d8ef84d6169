/- What scanning of the live question's two texts comes to. -/
import Derived.Test.YtjfmmnebhmlkeaaDoorLxP
import Derived.Test.YtjfmmnebhmlkeaaDoorRefK
namespace Go.Proofs.YtjfmmnebhmlkeaaDoor
open Go.Lib

def live1 : List UInt8 := [32, 66, 50, 60, 61, 48, 48, 55, 32, 35, 82, 69, 70, 32, 83, 85, 77, 40, 81, 49]
def live2 : List UInt8 := [49, 43, 32, 83, 85, 77, 50]
def liveT : List Tok := [⟨2, 0, 1, 1, [], 1⟩, ⟨5, 0, 0, 0, [60, 61], 3⟩, ⟨1, 7, 0, 0, [], 5⟩, ⟨3, 0, 0, 0, [], 9⟩, ⟨4, 0, 0, 0, [83, 85, 77], 14⟩, ⟨5, 0, 0, 0, [40], 17⟩, ⟨3, 0, 0, 0, [], 18⟩]
theorem scanF_blank {l : List UInt8} {k p : Nat} {acc : List Tok} (h : p < l.length) (hb : l.getD p 0 = 32) : scanF l (k + 1) p acc = scanF l k (p + 1) acc := by
  rw [scanF, if_pos h, if_pos hb]
theorem scanF_tok {l : List UInt8} {k p n : Nat} {acc : List Tok} {t : Tok} (h : p < l.length) (hb : ¬ l.getD p 0 = 32) (ho : oneT l p = some (t, n)) : scanF l (k + 1) p acc = scanF l k (p + n) (acc ++ [t]) := by
  rw [scanF, if_pos h, if_neg hb, ho]
theorem scanF_bad {l : List UInt8} {k p : Nat} {acc : List Tok} (h : p < l.length) (hb : ¬ l.getD p 0 = 32) (ho : oneT l p = none) : scanF l (k + 1) p acc = (none, p) := by
  rw [scanF, if_pos h, if_neg hb, ho]
theorem scanF_end {l : List UInt8} {k p : Nat} {acc : List Tok} (h : ¬ p < l.length) : scanF l (k + 1) p acc = (some acc, 0) := by
  rw [scanF, if_neg h]
theorem one_mark {l : List UInt8} {p : Nat} {m : Int} {x : List UInt8} (h1 : ¬ isFig (l.getD p 0) = true) (h2 : ¬ (65 ≤ (l.getD p 0).toNat ∧ (l.getD p 0).toNat ≤ 90)) (h3 : ¬ subL l p 4 = [35, 82, 69, 70]) (hm : markN l p = m) (h0 : ¬ m = 0) (hx : subL l p m.toNat = x) :
    oneT l p = some (⟨5, 0, 0, 0, x, p⟩, m.toNat) := by
  unfold oneT
  rw [if_neg h1, if_neg h2, if_neg h3, hm, if_neg h0, hx]
theorem one_fig {l : List UInt8} {p n u : Nat} (h1 : isFig (l.getD p 0) = true) (hr : runLen isFig l p = n) (hu : numV (subL l p n) = some u) : oneT l p = some (⟨1, (u : Int), 0, 0, [], p⟩, n) := by
  unfold oneT
  rw [if_pos h1, hr, hu]
theorem one_ref {l : List UInt8} {p : Nat} (h1 : ¬ isFig (l.getD p 0) = true) (h2 : ¬ (65 ≤ (l.getD p 0).toNat ∧ (l.getD p 0).toNat ≤ 90)) (h3 : subL l p 4 = [35, 82, 69, 70]) : oneT l p = some (⟨3, 0, 0, 0, [], p⟩, 4) := by
  unfold oneT
  rw [if_neg h1, if_neg h2, if_pos h3]
theorem one_word {l : List UInt8} {p n : Nat} {x : List UInt8} (h1 : ¬ isFig (l.getD p 0) = true) (h2 : 65 ≤ (l.getD p 0).toNat ∧ (l.getD p 0).toNat ≤ 90) (hr : runLen isNam l p = n) (hx : subL l p n = x) (hw : wordB x = true) : oneT l p = some (⟨4, 0, 0, 0, x, p⟩, n) := by
  unfold oneT
  rw [if_neg h1, if_pos h2, hr, hx, if_pos hw]
theorem one_place {l : List UInt8} {p n : Nat} {x : List UInt8} {c r : Int} (h1 : ¬ isFig (l.getD p 0) = true) (h2 : 65 ≤ (l.getD p 0).toNat ∧ (l.getD p 0).toNat ≤ 90) (hr : runLen isNam l p = n) (hx : subL l p n = x) (hw : ¬ wordB x = true)
    (h : prC x = c ∧ prR x = r ∧ prE x = 0) : oneT l p = some (⟨2, 0, c, r, [], p⟩, n) := by
  unfold oneT
  rw [if_neg h1, if_pos h2, hr, hx, if_neg hw, if_pos h.2.2, h.1, h.2.1]
theorem one_past {l : List UInt8} {p n : Nat} {x : List UInt8} {c r : Int} (h1 : ¬ isFig (l.getD p 0) = true) (h2 : 65 ≤ (l.getD p 0).toNat ∧ (l.getD p 0).toNat ≤ 90) (hr : runLen isNam l p = n) (hx : subL l p n = x) (hw : ¬ wordB x = true)
    (h : prC x = c ∧ prR x = r ∧ prE x = 4) : oneT l p = some (⟨3, 0, 0, 0, [], p⟩, n) := by
  unfold oneT
  rw [if_neg h1, if_pos h2, hr, hx, if_neg hw, h.2.2]
  rfl
theorem one_none {l : List UInt8} {p n : Nat} {x : List UInt8} {c r : Int} (h1 : ¬ isFig (l.getD p 0) = true) (h2 : 65 ≤ (l.getD p 0).toNat ∧ (l.getD p 0).toNat ≤ 90) (hr : runLen isNam l p = n) (hx : subL l p n = x) (hw : ¬ wordB x = true)
    (h : prC x = c ∧ prR x = r ∧ prE x = 2) : oneT l p = none := by
  unfold oneT
  rw [if_neg h1, if_pos h2, hr, hx, if_neg hw, h.2.2]
  rfl
theorem scan_live1 : scanT live1 = (some liveT, 0) := by
  show scanF live1 21 0 [] = _
  rw [scanF_blank (by decide) (by decide),
    scanF_tok (by decide) (by decide) (one_place (by decide) (by decide) (n := 2) (x := [66, 50]) (by decide) (by decide) (by decide) (parse_yes (u := 2) (by decide) (by decide) (by decide) (by decide) (by decide) (by decide +kernel))),
    scanF_tok (by decide) (by decide) (one_mark (m := 2) (x := [60, 61]) (by decide) (by decide) (by decide) (by decide) (by decide) (by decide)),
    scanF_tok (by decide) (by decide) (one_fig (n := 3) (u := 7) (by decide) (by decide) (by decide)),
    scanF_blank (by decide) (by decide),
    scanF_tok (by decide) (by decide) (one_ref (by decide) (by decide) (by decide)),
    scanF_blank (by decide) (by decide),
    scanF_tok (by decide) (by decide) (one_word (n := 3) (x := [83, 85, 77]) (by decide) (by decide) (by decide) (by decide) (by decide)),
    scanF_tok (by decide) (by decide) (one_mark (m := 1) (x := [40]) (by decide) (by decide) (by decide) (by decide) (by decide) (by decide)),
    scanF_tok (by decide) (by decide) (one_past (n := 2) (x := [81, 49]) (by decide) (by decide) (by decide) (by decide) (by decide) (parse_no (u := 1) (by decide) (by decide) (by decide +kernel))),
    scanF_end (by decide)]
  rfl
theorem scan_live2 : scanT live2 = (none, 3) := by
  show scanF live2 8 0 [] = _
  rw [scanF_tok (by decide) (by decide) (one_fig (n := 1) (u := 1) (by decide) (by decide) (by decide)),
    scanF_tok (by decide) (by decide) (one_mark (m := 1) (x := [43]) (by decide) (by decide) (by decide) (by decide) (by decide) (by decide)),
    scanF_blank (by decide) (by decide),
    scanF_bad (by decide) (by decide) (one_none (n := 4) (x := [83, 85, 77, 50]) (by decide) (by decide) (by decide) (by decide) (by decide) (parse_form (by decide)))]
  rfl
theorem ans_live1 : ansL live1 = liveT ∧ ansP live1 = 0 ∧ ansE live1 = 0 := ans_some (by decide) scan_live1
theorem ans_live2 : ansL live2 = [] ∧ ansP live2 = 3 ∧ ansE live2 = 2 := ans_none (by decide) scan_live2
end Go.Proofs.YtjfmmnebhmlkeaaDoor
