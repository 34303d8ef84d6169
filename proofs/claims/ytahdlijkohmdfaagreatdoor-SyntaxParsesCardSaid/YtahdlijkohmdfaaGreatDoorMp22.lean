/- Texts joined: PrA, SdA, SyR, LsA, PlI, PlJ. -/
import Derived.Test.YtahdlijkohmdfaaGreatDoorMp20
import Derived.Test.YtahdlijkohmdfaaGreatDoorMp21
import Derived.Test.YtahdlijkohmdfaaGreatDoorMp08
import Derived.Deep.RegionWith
import Derived.Test.YtahdlijkohmdfaaGreatDoorMp04
import Derived.Laws.RangeAny
import Derived.Shelf.Abstract
import Derived.Test.YtahdlijkohmdfaaGreatDoorMp03
import Derived.Test.YtahdlijkohmdfaaGreatDoorMp02
import Derived.Test.YtahdlijkohmdfaaGreatDoorMp07
set_option linter.all false
set_option linter.unusedVariables false
set_option linter.unusedSimpArgs false
namespace Go.Proofs.YtahdlijkohmdfaaGreatDoor
open Go.RowKit

theorem right_iff (t : Tr) : rightP t = true ↔ t.kind ≠ 6 ∧ deepT t ≤ 16 ∧ mayB t = true := by
  unfold rightP
  rw [Bool.and_eq_true, fit_may, bne_iff_ne]
def printP (t : Tr) : List UInt8 := if rightP t = true then txT t else []
set_option maxHeartbeats 2000000 in
set_option maxRecDepth 10000 in
theorem sprint_no (t : Tr) (ht : Wid t) (hr : rightP t = false) (w : World) (P : Nat → Prop) (A : Option Addr) (ca : Nat) (hA : KV w P t A) (B : Nat) (hB : B ≤ w.heap.size) (hS : Strs B B w) :
    Calls Tryz.prog 9 #[tv t A ca] w fun e w' => e = .returned (.string ⟨#[]⟩) ∧ Below w.heap.size w w' := by
  have h0 : ∀ ob, Below w.heap.size w (w.alloc ob) := fun ob => (Below.refl _ _).alloc (Nat.le_refl _) ob
  have H := Lib.hid (fun ob => sright_any t ht (w.alloc ob) P A ca (hA.kept (Kept.of_below (h0 ob))) B (by simp; omega) (hS.later hB (h0 ob)))
  rw [hr] at H
  have hlen := ht.len
  unfold maxLen at hlen
  unfold tv at *
  clear hA hS hr ht h0
  go_enter Tryz.func9, Tryz.ntmps9
  go_wp2_with fail
  refine (H.out _).mono ?_; rintro e w1 ⟨rfl, b1⟩
  have h1 : Below w.heap.size w w1 := ((Below.refl _ _).alloc (Nat.le_refl _) _).trans (b1.mono (by simp))
  clear b1
  go_wp2_with fail
  go_ret
  exact ⟨rfl, h1⟩
set_option maxHeartbeats 2000000 in
set_option maxRecDepth 10000 in
theorem sprint_yes (t : Tr) (ht : Wid t) (hf : Fit t) (hr : rightP t = true) (hl : (txT t).length ≤ 140737488355328) (w : World) (A : Option Addr) (ca : Nat) (hA : KV w (fun _ => True) t A) (hE : EnvI w) (hS : Strs w.heap.size w.heap.size w) :
    Calls Tryz.prog 9 #[tv t A ca] w fun e w' => e = .returned (.string ⟨(txT t).toArray⟩) ∧ Below w.heap.size w w' := by
  have h0 : ∀ ob, Below w.heap.size w (w.alloc ob) := fun ob => (Below.refl _ _).alloc (Nat.le_refl _) ob
  have H := Lib.hid (fun ob => sright_any t ht (w.alloc ob) (fun _ => True) A ca (hA.kept (Kept.of_below (h0 ob))) w.heap.size (by simp) (hS.later (Nat.le_refl _) (h0 ob)))
  have HW := Lib.hid (fun w1 (hb : Below w.heap.size w w1) => write_any (w0 := w1) (b := w1.heap.size) (hE.below hb) (Strs.up (hS.later (Nat.le_refl _) hb) hb.size hb.size) (Nat.le_refl _) ht hf ((right_iff t).1 hr).2.2 A ca (hA.kept (Kept.of_below hb)))
  rw [hr] at H
  have hlen := ht.len
  unfold maxLen at hlen
  have HL := Lib.hid hl
  unfold tv at *
  clear hA hS hr ht h0 hf hE hl
  go_enter Tryz.func9, Tryz.ntmps9
  go_wp2_with fail
  refine (H.out _).mono ?_; rintro e w1 ⟨rfl, b1⟩
  have k10 := keep_fresh b1 0 (v := .int .i64 t.kind) rfl
  have k11 := keep_fresh b1 1 (v := .int .i64 t.num) rfl
  have k12 := keep_fresh b1 2 (v := .int .i64 t.c1) rfl
  have k13 := keep_fresh b1 3 (v := .int .i64 t.r1) rfl
  have k14 := keep_fresh b1 4 (v := .int .i64 t.c2) rfl
  have k15 := keep_fresh b1 5 (v := .int .i64 t.r2) rfl
  have k16 := keep_fresh b1 6 (v := .string ⟨t.word.toArray⟩) rfl
  have k17 := keep_fresh b1 7 (v := .slice A t.kids.length ca) rfl
  have h1 : Below w.heap.size w w1 := ((Below.refl _ _).alloc (Nat.le_refl _) _).trans (b1.mono (by simp))
  have H1 := Lib.hid h1
  clear b1 h1
  have c10 := kc_alloc' k10 (ob := .cells #[.pointer none, .slice none 0 0] 53)
  have c11 := kc_alloc' k11 (ob := .cells #[.pointer none, .slice none 0 0] 53)
  have c12 := kc_alloc' k12 (ob := .cells #[.pointer none, .slice none 0 0] 53)
  have c13 := kc_alloc' k13 (ob := .cells #[.pointer none, .slice none 0 0] 53)
  have c14 := kc_alloc' k14 (ob := .cells #[.pointer none, .slice none 0 0] 53)
  have c15 := kc_alloc' k15 (ob := .cells #[.pointer none, .slice none 0 0] 53)
  have c16 := kc_alloc' k16 (ob := .cells #[.pointer none, .slice none 0 0] 53)
  have c17 := kc_alloc' k17 (ob := .cells #[.pointer none, .slice none 0 0] 53)
  clear k10 k11 k12 k13 k14 k15 k16 k17
  have hz : Hid (WC w1 (w1.alloc (.cells #[.pointer none, .slice none 0 0] 53)) w1.heap.size []) := Lib.hid ⟨(Below.refl _ _).alloc (Nat.le_refl _) _, Lib.IsBuilderF.of (Lib.fresh_isBuilder _ _ w1)⟩
  go_wp2_with fail
  refine (HW.out w1 H1.out _ [] hz.out (by simpa using HL.out)).mono ?_; rintro e w2 ⟨rfl, hw2, hk2, hs2⟩
  have HB := Lib.hid (bstring_any w1.heap.size w1.heap.size (txT t) w2 hw2.bld hw2.low.size)
  have H2 := Lib.hid (H1.out.trans (hw2.low.mono H1.out.size))
  clear hw2 hk2 hs2
  go_wp2_with fail
  refine HB.out.mono ?_; rintro e w3 ⟨rfl, b3⟩
  have H3 := Lib.hid (H2.out.trans (b3.mono H1.out.size))
  clear b3
  go_wp2_with fail
  go_ret
  exact ⟨rfl, H3.out⟩
theorem sprint_any (t : Tr) (ht : Wid t) (hf : Fit t) (hl : (txT t).length ≤ 140737488355328) (w : World) (A : Option Addr) (ca : Nat) (hA : KV w (fun _ => True) t A) (hE : EnvI w) (hS : Strs w.heap.size w.heap.size w) :
    Calls Tryz.prog 9 #[tv t A ca] w fun e w' => e = .returned (.string ⟨(printP t).toArray⟩) ∧ Below w.heap.size w w' := by
  unfold printP
  cases hr : rightP t with
  | true => exact sprint_yes t ht hf hr hl w A ca hA hE hS
  | false => exact sprint_no t ht hr w _ A ca hA w.heap.size (Nat.le_refl _) hS
theorem fit_two {a b : Tr} {w : List UInt8} (ha : Fit a) (hb : Fit b) : Fit (opT w a b) := .mk (by decide) (by
  intro t h
  simp only [List.mem_cons, List.not_mem_nil, or_false] at h
  rcases h with h | h
  · rw [h]; exact ha
  · rw [h]; exact hb)
theorem fit_three {a b c : Tr} {w : List UInt8} (ha : Fit a) (hb : Fit b) (hc : Fit c) : Fit (callT w [a, b, c]) := .mk (by decide) (by
  intro t h
  simp only [List.mem_cons, List.not_mem_nil, or_false] at h
  rcases h with h | h | h
  · rw [h]; exact ha
  · rw [h]; exact hb
  · rw [h]; exact hc)
theorem fit_one {n k c r d s : Int} {w : List UInt8} {a : Tr} (hn : n ≤ 9223372036854775807) (ha : Fit a) : Fit (.mk k n c r d s w [a]) := .mk hn (by
  intro t h
  rw [List.mem_singleton.1 h]; exact ha)
theorem fit_leaf {n k c r d s : Int} {w : List UInt8} (hn : n ≤ 9223372036854775807) : Fit (.mk k n c r d s w []) := .mk hn (by intro t h; cases h)
theorem pr_fit {md : Mode} {t : Tr} {s : List UInt8} {ts : List Tok} (h : Pr md t s ts) : Fit t := by
  induction h with
  | @num n hn => exact fit_leaf (by omega)
  | read _ => exact fit_leaf (by decide)
  | bad => exact fit_leaf (by decide)
  | neg _ ih => exact fit_one (by decide) ih
  | op _ _ _ iha ihb => exact fit_two iha ihb
  | plain _ _ ih => exact ih
  | brk _ _ _ ih => exact ih
  | cif _ _ _ iha ihb ihc => exact fit_three iha ihb ihc
  | call _ _ ih => cases ih with | mk _ h => exact .mk (by decide) h
  | itT _ ih => exact ih
  | itBad => exact fit_leaf (by decide)
  | itSpan _ _ _ _ => exact fit_leaf (by decide)
  | last _ ih => exact fit_one (by decide) ih
  | @more k t ks s s' ts ts' _ _ ih ih' =>
    cases ih' with
    | mk _ h' =>
      refine .mk (by decide) ?_
      intro u hu
      rcases List.mem_cons.1 hu with e | hu
      · rw [e]; exact ih
      · exact h' u hu
structure Parsed (t : Tr) : Prop where
  wid : Wid t
  fit : Fit t
  may : mayB t = true
  kind : t.kind ≠ 6
  deep : deepT t ≤ 16
theorem Parsed.right {t : Tr} (h : Parsed t) : rightP t = true := (right_iff t).2 ⟨h.kind, h.deep, h.may⟩
end Go.Proofs.YtahdlijkohmdfaaGreatDoor
namespace Go.Proofs.YtahdlijkohmdfaaGreatDoor
open Go.RowKit

set_option maxHeartbeats 2000000 in
set_option maxRecDepth 10000 in
theorem pdeep_any : ∀ (d : Nat) (t : Tr), deepT t ≤ d → d ≤ 1000000000 → Wid t → ∀ (w : World) (P : Nat → Prop) (A : Option Addr) (cap : Nat), KV w P t A →
    Calls Tryz.prog 14 #[tv t A cap] w fun e w' => e = .returned (.int .i64 (deepT t : Int)) ∧ Below w.heap.size w w' := by
  intro d
  induction d with
  | zero => intro t h; rw [deep_eq] at h; omega
  | succ d ih =>
    intro t hd hb hw w P A cap hk
    unfold tv
    have hlen := hw.len
    unfold maxLen at hlen
    have HW := Lib.hid hw
    have HK := Lib.hid hk
    have HI := Lib.hid ih
    have HE := Lib.hid (deep_eq t)
    have hdl : deepL t.kids ≤ d := by rw [deep_eq] at hd; omega
    clear hk hd ih hw
    go_enter Tryz.func14, Tryz.ntmps14
    go_wp2_with fail
    go_loopw [3, 9] (fun vn vi wr => ∃ i : Nat, i ≤ t.kids.length ∧ vn = .int .i64 (deepL (t.kids.take i) : Int) ∧ vi = .int .i64 (i : Int) ∧ Below w.heap.size w wr) (fun _ vi _ => t.kids.length - (intOf vi).toNat)
    case atStart => exact ⟨0, Nat.zero_le _, by rw [List.take_zero, deepL]; rfl, rfl, (Below.refl _ _).alloc (Nat.le_refl _) _⟩
    case round =>
      obtain ⟨i, hi, rfl, rfl, hbel⟩ := hrel
      have htl := deep_take_le t.kids i
      by_cases hlt : i < t.kids.length
      · have hu : t.kids[i]? = some (t.kids[i]'hlt) := List.getElem?_eq_getElem hlt
        obtain ⟨g, o, rfl⟩ := HK.out.addr hu
        obtain ⟨hg, A', cap', h8, hkv⟩ := HK.out.kidAt hbel hu
        have htk := Lib.hid (deep_take hu)
        have hdu := deep_kid hu
        have HC := Lib.hid (fun ob => HI.out _ (Nat.le_trans hdu hdl) (by omega) (HW.out.kid hu) (wr.alloc ob) (fun _ => True) A' cap' (hkv.kept (Kept.of_below ((Below.refl _ _).alloc (Nat.le_refl _) ob))))
        generalize t.kids[i]'hlt = u at *
        unfold At8 at h8
        unfold tv at HC
        obtain ⟨q0, q1, q2, q3, q4, q5, q6, q7⟩ := h8
        clear hkv hu
        go_wp2_with fail
        refine (HC.out _).mono ?_; rintro e w1 ⟨rfl, b1⟩
        have hb1 : Below w.heap.size w w1 := (hbel.alloc hbel.size _).trans (b1.mono (by have := hbel.size; simp; omega))
        clear b1 q0 q1 q2 q3 q4 q5 q6 q7
        go_wp2_with fail
        go_roundw
        case rel => exact ⟨i + 1, by omega, by rw [htk.out]; congr 1; omega, by go_num, hb1⟩
        case measure => simp [intOf]; omega
      · have hii : i = t.kids.length := by omega
        subst hii
        rw [List.take_length] at *
        have hw : wrap64 ((deepL t.kids : Int) + 1) = (deepL t.kids : Int) + 1 := IntWalk.wrap64_in _ (by omega)
        go_wp2_with fail
        go_ret
        exact ⟨ret_int (by have := HE.out; omega), hbel⟩
end Go.Proofs.YtahdlijkohmdfaaGreatDoor
namespace Go.Proofs.YtahdlijkohmdfaaGreatDoor

def GivD (D : Nat) (o : Option Res) : Prop := ∀ t q, o = some (.ok t q) → Wid t ∧ deepT t ≤ D
theorem GivD.ok {D : Nat} {t : Tr} {q : Nat} (h : Wid t) (hd : deepT t ≤ D) : GivD D (some (.ok t q)) := fun _ _ e => by cases e; exact ⟨h, hd⟩
theorem GivD.bad {D w : Nat} : GivD D (some (.bad w)) := fun _ _ e => by cases e
theorem GivD.le {D D' : Nat} {o : Option Res} (h : GivD D o) (hd : D ≤ D') : GivD D' o := fun t q e => ⟨(h t q e).1, Nat.le_trans (h t q e).2 hd⟩
theorem GivD.next {D D' : Nat} {a : Option Res} {f : Tr → Nat → Option Res} (h : GivD D a) (hf : ∀ t q, Wid t → deepT t ≤ D → GivD D' (f t q)) : GivD D' (Res.next a f) := fun t q e => by
  cases a with
  | none => cases e
  | some r =>
    cases r with
    | ok u p => exact hf u p (h u p rfl).1 (h u p rfl).2 t q e
    | bad w => cases e
theorem GivD.must {D : Nat} {L : List Tok} {E p : Nat} {s : List UInt8} {f : Nat → Option Res} (hf : ∀ q, GivD D (f q)) : GivD D (mustF L E p s f) := by
  unfold mustF
  split
  · exact hf _
  · exact .bad
theorem wid_leaf (k n c r d s : Int) (w : List UInt8) : Wid (.mk k n c r d s w []) := .mk (Nat.zero_le _) fun t h => by cases h
theorem deep_leaf (k n c r d s : Int) (w : List UInt8) : deepT (.mk k n c r d s w []) = 1 := by rw [deepT, deepL]
theorem wid_node {k n c r d s : Int} {w : List UInt8} {ks : List Tr} (hl : ks.length ≤ 1000000) (h : ∀ t ∈ ks, Wid t) : Wid (.mk k n c r d s w ks) := .mk (Nat.le_trans hl (by decide)) h
structure DAll (L : List Tok) (E k : Nat) : Prop where
  line : ∀ lev p, GivD (k * k + 1) (lineF L E k lev p)
  rest : ∀ lev out p m, Wid out → deepT out ≤ m → k * k + 1 ≤ m → GivD (m + k) (restF L E k lev out p)
  pref : ∀ p, GivD (k * k + 1) (prefF L E k p)
  oper : ∀ p, GivD (k * k + 1) (operF L E k p)
  items : ∀ w acc p m, (∀ t ∈ acc, Wid t) → deepL acc ≤ m → k * k + 1 ≤ m → acc.length + k ≤ 1000000 → GivD (m + 1) (itemsF L E k w acc p)
  item : ∀ c p, GivD (k * k + 1) (itemF L E k c p)
theorem d_all (L : List Tok) (E : Nat) : ∀ k, k ≤ 100000 → DAll L E k
  | 0, _ => by
    constructor <;> intros <;> first | (rw [lineF]; intro _ _ h; cases h) | (rw [restF]; intro _ _ h; cases h) | (rw [prefF]; intro _ _ h; cases h) | (rw [operF]; intro _ _ h; cases h) | (rw [itemsF]; intro _ _ h; cases h) | (rw [itemF]; intro _ _ h; cases h)
  | k + 1, hk => by
    have I := d_all L E k (by omega)
    have e : (k + 1) * (k + 1) + 1 = k * k + 1 + (2 * k + 1) := by rw [Nat.add_mul, Nat.mul_add]; omega
    have leaf : ∀ (a n c r d s : Int) (q : Nat), GivD ((k + 1) * (k + 1) + 1) (some (.ok (.mk a n c r d s [] []) q)) := fun a n c r d s q => .ok (wid_leaf _ _ _ _ _ _ _) (by rw [deep_leaf]; omega)
    constructor
    · intro lev p
      simp only [lineF]
      split
      · exact (I.pref p).le (by omega)
      · exact (I.line _ _).next fun t q hw hd => (I.rest lev t q _ hw hd (Nat.le_refl _)).le (by omega)
    · intro lev out p m hw hd hm
      simp only [restF]
      split
      · refine (I.line _ _).next fun t q hwt hdt => (I.rest lev _ q (m + 1) ?_ ?_ (by omega)).le (by omega)
        · exact wid_node (by simp) fun x hx => by
            simp only [List.mem_cons, List.not_mem_nil, or_false] at hx
            rcases hx with rfl | rfl
            · exact hw
            · exact hwt
        · show deepT (.mk _ _ _ _ _ _ _ [out, t]) ≤ _
          rw [deepT, deepL, deepL, deepL]
          omega
      · exact .ok hw (by omega)
    · intro p
      simp only [prefF]
      split
      · refine (I.pref _).next fun t q hw hd => .ok (wid_node (by simp) fun x hx => ?_) ?_
        · simp only [List.mem_cons, List.not_mem_nil, or_false] at hx
          rw [hx]; exact hw
        · show deepT (.mk _ _ _ _ _ _ _ [t]) ≤ _
          rw [deepT, deepL, deepL]
          omega
      · exact (I.oper p).le (by omega)
    · intro p
      simp only [operF]
      split
      · exact (I.line _ _).next fun t q hw hd => .must fun _ => .ok hw (by omega)
      · split
        · exact .bad
        · rename_i t ht
          split
          · exact .bad
          · split
            · exact leaf _ _ _ _ _ _ _
            · split
              · exact leaf _ _ _ _ _ _ _
              · split
                · exact leaf _ _ _ _ _ _ _
                · refine .must fun q => ?_
                  split
                  · refine (I.line _ _).next fun a q ha hda => .must fun q => (I.line _ _).next fun b q hb hdb => .must fun q => (I.line _ _).next fun c q hc hdc => .must fun q => .ok (wid_node (by simp) fun x hx => ?_) ?_
                    · simp only [List.mem_cons, List.not_mem_nil, or_false] at hx
                      rcases hx with rfl | rfl | rfl
                      · exact ha
                      · exact hb
                      · exact hc
                    · show deepT (.mk _ _ _ _ _ _ _ [a, b, c]) ≤ _
                      rw [deepT, deepL, deepL, deepL, deepL]
                      omega
                  · exact (I.items t.text [] q (k * k + 1) (fun x hx => by cases hx) (by rw [deepL]; omega) (Nat.le_refl _) (by simp; omega)).le (by omega)
    · intro w acc p m ha hd hm hl
      simp only [itemsF]
      refine (I.item _ _).next fun t q hw hdt => ?_
      have hall : ∀ x ∈ acc ++ [t], Wid x := fun x hx => by
        rcases List.mem_append.1 hx with h | h
        · exact ha x h
        · rw [List.mem_singleton.1 h]; exact hw
      have hda : deepL (acc ++ [t]) ≤ m := by rw [deep_snoc]; omega
      split
      · exact I.items w _ _ m hall hda (by omega) (by simp; omega)
      · refine .must fun _ => .ok (wid_node (by simp; omega) hall) ?_
        show deepT (.mk _ _ _ _ _ _ _ (acc ++ [t])) ≤ _
        rw [deepT]
        omega
    · intro c p
      simp only [itemF]
      split
      · exact (I.line 1 p).le (by omega)
      · split
        · exact .bad
        · split
          · exact .bad
          · split
            · exact leaf _ _ _ _ _ _ _
            · refine .must fun q => ?_
              split
              · exact .bad
              · split
                · exact .bad
                · split
                  · exact leaf _ _ _ _ _ _ _
                  · exact leaf _ _ _ _ _ _ _
theorem tree_wid {L : List Tok} {E : Nat} (hL : L.length ≤ 1000) {t : Tr} {q : Nat} (h : treeT L E = some (.ok t q)) : Wid t ∧ deepT t ≤ 1000000000 := by
  obtain ⟨a, b⟩ := (d_all L E (8 * L.length + 6) (by omega)).line 1 0 t q h
  refine ⟨a, Nat.le_trans b ?_⟩
  have : (8 * L.length + 6) * (8 * L.length + 6) ≤ 8006 * 8006 := Nat.mul_le_mul (by omega) (by omega)
  omega
inductive PRes where
  | good (t : Tr)
  | fail (a e : Int)
def parseL (l : List UInt8) : PRes :=
  if ansE l ≠ 0 then .fail (ansP l) (ansE l) else match treeT (ansL l) l.length with
    | none => .fail 0 0
    | some (.bad z) => .fail (z : Int) 2
    | some (.ok t q) => if q < (ansL l).length then .fail (whr (ansL l) l.length q : Int) 2 else if 16 < deepT t then .fail 0 6 else .good t
end Go.Proofs.YtahdlijkohmdfaaGreatDoor
namespace Go.Proofs.YtahdlijkohmdfaaGreatDoor
open Go.RowKit

set_option maxHeartbeats 400000 in
theorem ufigure_at (c : Int) (b0 b1 : Bool) (h0 : decide ((48 : Int) ≤ c) = b0) (h1 : decide (c ≤ 57) = b1) (w : World) :
    Calls Tryz.prog 53 #[.int .i32 c] w fun e w' => e = .returned (.bool (b0 && b1)) ∧ w = w' := by
  cases b0 <;> cases b1
  all_goals
    go_enter Tryz.func53, Tryz.ntmps53
    go_wp2_with fail
    go_ret
    exact ⟨rfl, rfl⟩
set_option maxHeartbeats 400000 in
theorem uletter_at (c : Int) (b0 b1 : Bool) (h0 : decide ((65 : Int) ≤ c) = b0) (h1 : decide (c ≤ 90) = b1) (w : World) :
    Calls Tryz.prog 56 #[.int .i32 c] w fun e w' => e = .returned (.bool (b0 && b1)) ∧ w = w' := by
  cases b0 <;> cases b1
  all_goals
    go_enter Tryz.func56, Tryz.ntmps56
    go_wp2_with fail
    go_ret
    exact ⟨rfl, rfl⟩
set_option maxHeartbeats 400000 in
theorem unamed_at (c : Int) (A B : Bool) (H1 : Hid (∀ w, Calls Tryz.prog 56 #[.int .i32 c] w fun e w' => e = .returned (.bool A) ∧ w = w'))
    (H2 : Hid (∀ w, Calls Tryz.prog 53 #[.int .i32 c] w fun e w' => e = .returned (.bool B) ∧ w = w')) (w : World) :
    Calls Tryz.prog 58 #[.int .i32 c] w fun e w' => e = .returned (.bool (A || B)) ∧ w = w' := by
  cases A with
  | true =>
    go_enter Tryz.func58, Tryz.ntmps58
    go_wp2_with fail
    refine (H1.out _).mono ?_; rintro e w1 ⟨rfl, rfl⟩
    go_wp2_with fail
    go_ret
    exact ⟨rfl, rfl⟩
  | false =>
    go_enter Tryz.func58, Tryz.ntmps58
    go_wp2_with fail
    refine (H1.out _).mono ?_; rintro e w1 ⟨rfl, rfl⟩
    go_wp2_with fail
    refine (H2.out _).mono ?_; rintro e w2 ⟨rfl, rfl⟩
    go_wp2_with fail
    go_ret
    exact ⟨rfl, rfl⟩

def isLet (c : UInt8) : Bool := decide (65 ≤ c.toNat ∧ c.toNat ≤ 90)
structure SortC (F : Nat) (f : UInt8 → Bool) : Prop where
  enters : ∀ (args : Array Value) (w : World), (callFunc F args).run Tryz.prog w = .ok (.enter F args) w
  low : ∀ (c : UInt8) (w : World), Calls Tryz.prog F #[.int .i32 (c.toNat : Int)] w fun e w' => e = .returned (.bool (f c)) ∧ w = w'
  high : ∀ (c : Nat) (w : World), 128 ≤ c → Calls Tryz.prog F #[.int .i32 (c : Int)] w fun e w' => e = .returned (.bool false) ∧ w = w'
  off : ∀ c : UInt8, 128 ≤ c.toNat → f c = false
theorem ufigure_low (c : UInt8) (w : World) : Calls Tryz.prog 53 #[.int .i32 (c.toNat : Int)] w fun e w' => e = .returned (.bool (isFig c)) ∧ w = w' :=
  (ufigure_at c.toNat _ _ rfl rfl w).mono fun _ _ ⟨he, hb⟩ => ⟨he.trans (ret_bool (by
    unfold isFig
    rw [Bool.eq_iff_iff]
    simp only [Bool.and_eq_true, decide_eq_true_eq]
    omega)), hb⟩
theorem uletter_low (c : UInt8) (w : World) : Calls Tryz.prog 56 #[.int .i32 (c.toNat : Int)] w fun e w' => e = .returned (.bool (isLet c)) ∧ w = w' :=
  (uletter_at c.toNat _ _ rfl rfl w).mono fun _ _ ⟨he, hb⟩ => ⟨he.trans (ret_bool (by
    unfold isLet
    rw [Bool.eq_iff_iff]
    simp only [Bool.and_eq_true, decide_eq_true_eq]
    omega)), hb⟩
theorem ufigure_high (c : Nat) (w : World) (h : 128 ≤ c) : Calls Tryz.prog 53 #[.int .i32 (c : Int)] w fun e w' => e = .returned (.bool false) ∧ w = w' :=
  ufigure_at c true false (decide_eq_true (by omega)) (decide_eq_false (by omega)) w
theorem uletter_high (c : Nat) (w : World) (h : 128 ≤ c) : Calls Tryz.prog 56 #[.int .i32 (c : Int)] w fun e w' => e = .returned (.bool false) ∧ w = w' :=
  uletter_at c true false (decide_eq_true (by omega)) (decide_eq_false (by omega)) w
theorem nam_split (c : UInt8) : isNam c = (isLet c || isFig c) := by
  unfold isNam isLet isFig
  rw [Bool.eq_iff_iff]
  simp only [Bool.or_eq_true, decide_eq_true_eq]
theorem sort_figure : SortC 53 isFig where
  enters := fun args w => enters_of Tryz.func53 (by kernel_rfl) rfl args w
  low := ufigure_low
  high := ufigure_high
  off := fun c h => decide_eq_false (by omega)
theorem sort_named : SortC 58 isNam where
  enters := fun args w => enters_of Tryz.func58 (by kernel_rfl) rfl args w
  low := fun c w => by
    rw [nam_split]
    exact unamed_at c.toNat _ _ (Lib.hid (uletter_low c)) (Lib.hid (ufigure_low c)) w
  high := fun c w h => unamed_at c false false (Lib.hid fun w => uletter_high c w h) (Lib.hid fun w => ufigure_high c w h) w
  off := fun c h => decide_eq_false (by omega)

set_option maxHeartbeats 1000000 in
set_option maxRecDepth 10000 in
theorem urun_any {F : Nat} {f : UInt8 → Bool} (hA : SortC F f) (T : ByteArray) (_hs : T.size ≤ 9223372036854775807) (w : World) :
    Calls Tryz.prog 55 #[.string T, .func (.func F) #[] #[]] w fun e w' => e = .returned (.int .i64 (runLen f T.data.toList 0 : Int)) ∧ Below w.heap.size w w' := by
  have HA := Lib.hid hA
  have hE := hA.enters
  clear hA
  go_enter Tryz.func55, Tryz.ntmps55
  go_wp2_with fail
  go_loopw [4, 5] (fun _ _ wr => ∃ pos : Nat, pos ≤ T.size ∧ wr = w.iter T pos ∧ Hid (∀ j, j < pos → f (T.data.toList.getD (0 + j) 0) = true)) (fun _ _ wr => T.size - wr.iterPos w.heap.size)
  case atStart => exact ⟨0, Nat.zero_le _, rfl, Lib.hid fun j hj => by omega⟩
  case round =>
    obtain ⟨pos, hpos, rfl, HU⟩ := hrel
    by_cases hp : pos < T.size
    · have hb := byte_getD T pos hp
      by_cases ha : (T[pos]'hp).toNat < 128
      · have H1 := HA.out.low (T[pos]'hp)
        cases hf : f (T[pos]'hp) with
        | true =>
          have HS : Hid (∀ j, j < pos + 1 → f (T.data.toList.getD (0 + j) 0) = true) := Lib.hid fun j hj => by
            by_cases e : j = pos
            · subst e; rw [Nat.zero_add, hb]; exact hf
            · exact HU.out j (by omega)
          rw [hf] at H1
          have H1 := Lib.hid H1
          have hnx := fun ty => run_next_ascii (P := Tryz.prog) w T pos ty hp (by omega)
          clear hb hf ha
          go_wp2_with fail
          refine (H1.out _).mono ?_; rintro e w1 ⟨rfl, rfl⟩
          go_wp2_with fail
          go_roundw
          case rel => exact ⟨pos + 1, by omega, rfl, HS⟩
          case measure => simp; omega
        | false =>
          have hR : runLen f T.data.toList 0 = pos := run_is HU.out (by rw [len_of]; omega) (.inr (by rw [Nat.zero_add, hb]; exact hf))
          have HR := Lib.hid hR
          rw [hf] at H1
          have H1 := Lib.hid H1
          have hnx := fun ty => run_next_ascii (P := Tryz.prog) w T pos ty hp (by omega)
          clear hb hf ha hR
          go_wp2_with fail
          refine (H1.out _).mono ?_; rintro e w1 ⟨rfl, rfl⟩
          go_wp2_with fail
          go_ret
          exact ⟨by rw [HR.out]; rfl, (Below.refl _ _).alloc (Nat.le_refl _) _⟩
      · have hr := (decode_high T pos hp (by omega)).1
        have hR : runLen f T.data.toList 0 = pos := run_is HU.out (by rw [len_of]; omega) (.inr (by rw [Nat.zero_add, hb]; exact HA.out.off _ (by omega)))
        have HR := Lib.hid hR
        have hnx := fun ty => run_next_any (P := Tryz.prog) w T pos ty hp
        have H1 := Lib.hid fun w => HA.out.high (Utf8.decode T pos).1 w (by omega)
        clear hb ha hR hr
        generalize (Utf8.decode T pos).1 = R at *
        generalize (Utf8.decode T pos).2 = V at *
        go_wp2_with fail
        refine (H1.out _).mono ?_; rintro e w1 ⟨rfl, rfl⟩
        go_wp2_with fail
        go_ret
        exact ⟨by rw [HR.out]; rfl, (Below.refl _ _).alloc (Nat.le_refl _) _⟩
    · have hnx := fun ty => run_next_end (P := Tryz.prog) w T pos ty hp
      have hR : runLen f T.data.toList 0 = T.size := by
        have e : pos = T.size := by omega
        exact run_is (fun j hj => HU.out j (by omega)) (by rw [len_of]; omega) (.inl (by rw [len_of]; omega))
      have HR := Lib.hid hR
      clear hR
      go_wp2_with fail
      go_ret
      exact ⟨by rw [HR.out]; rfl, (Below.refl _ _).alloc (Nat.le_refl _) _⟩
end Go.Proofs.YtahdlijkohmdfaaGreatDoor
namespace Go.Proofs.YtahdlijkohmdfaaGreatDoor
open Go.RowKit

theorem behind_size (s : ByteArray) : (s.extract 1 s.size).size = s.size - 1 := by rw [ByteArray.size_extract]; omega
theorem behind_at (s : ByteArray) (i : Nat) (h : i < (s.extract 1 s.size).size) : (s.extract 1 s.size)[i]'h = s.data.toList.getD (i + 1) 0 := by
  have h2 : i + 1 < s.size := by rw [behind_size] at h; omega
  rw [byte_getD s (i + 1) h2, ByteArray.getElem_extract]
  congr 1
  omega
theorem rune_not {t : ByteArray} {pos : Nat} (h : pos < t.size) (hn : ¬ (48 ≤ (t[pos]'h).toNat ∧ (t[pos]'h).toNat ≤ 57)) : (Utf8.decode t pos).1 < 48 ∨ 57 < (Utf8.decode t pos).1 := by
  by_cases ha : (t[pos]'h).toNat < 128
  · rw [decode_ascii t pos h ha]
    show (t[pos]'h).toNat < 48 ∨ 57 < (t[pos]'h).toNat
    omega
  · have := (decode_high t pos h (by omega)).1
    omega

set_option maxHeartbeats 1000000 in
theorem pformed_any (s : ByteArray) (hs : s.size ≤ 9223372036854775807) (w : World) :
    Calls Tryz.prog 98 #[.string s] w fun e w' => e = .returned (.bool (formedB s.data.toList)) ∧ Below w.heap.size w w' := by
  by_cases h2 : s.size < 2
  · have e1 := Lib.hid (show formedB s.data.toList = false from by
      unfold formedB; rw [len_of, decide_eq_false (by omega)]; rfl)
    have d1 : decide ((s.size : Int) < 2) = true := decide_eq_true (by omega)
    clear h2
    go_enter Tryz.func98, Tryz.ntmps98
    go_wp2_with fail
    go_ret
    exact ⟨ret_bool e1.out.symm, Below.refl _ _⟩
  · have d1 : decide ((s.size : Int) < 2) = false := decide_eq_false (by omega)
    by_cases h4 : 4 < s.size
    · have e1 := Lib.hid (show formedB s.data.toList = false from by
        unfold formedB; rw [len_of, decide_eq_false (by omega)]; rfl)
      have d2 : decide ((4 : Int) < (s.size : Int)) = true := decide_eq_true (by omega)
      clear h2 h4
      go_enter Tryz.func98, Tryz.ntmps98
      go_wp2_with fail
      go_ret
      exact ⟨ret_bool e1.out.symm, Below.refl _ _⟩
    · have d2 : decide ((4 : Int) < (s.size : Int)) = false := decide_eq_false (by omega)
      have s0 : 0 < s.size := by omega
      have s1 : 1 < s.size := by omega
      have g0 := Lib.hid (byte_getD s 0 s0)
      have g1 := Lib.hid (byte_getD s 1 s1)
      by_cases ha : 65 ≤ (s[0]'s0).toNat ∧ (s[0]'s0).toNat ≤ 90 ∧ (s[1]'s1).toNat ≠ 48
      · obtain ⟨a1, a2, a3⟩ := ha
        have d3 : decide (((s[0]'s0).toNat : Int) < 65) = false := decide_eq_false (by omega)
        have d4 : decide ((90 : Int) < ((s[0]'s0).toNat : Int)) = false := decide_eq_false (by omega)
        have d5 : (((s[1]'s1).toNat : Int) == 48) = false := by rw [beq_eq_false_iff_ne]; omega
        have e0 := Lib.hid (show formedB s.data.toList = decide (∀ i, i < s.data.toList.length → 1 ≤ i → 48 ≤ (s.data.toList.getD i 0).toNat ∧ (s.data.toList.getD i 0).toNat ≤ 57) from by
          unfold formedB
          rw [g0.out, g1.out, len_of, decide_eq_true (p := 2 ≤ s.size ∧ _) (by omega), Bool.true_and])
        have BS := Lib.hid (behind_size s)
        have BA := Lib.hid (behind_at s)
        clear a1 a2 a3 h2
        go_enter Tryz.func98, Tryz.ntmps98
        go_wp2_with fail
        generalize s.extract 1 s.size = T at *
        go_loopw [4] (fun _ wr => ∃ pos : Nat, pos ≤ T.size ∧ wr = w.iter T pos ∧ Hid (∀ j, j < pos + 1 → 1 ≤ j → 48 ≤ (s.data.toList.getD j 0).toNat ∧ (s.data.toList.getD j 0).toNat ≤ 57)) (fun _ wr => T.size - wr.iterPos w.heap.size)
        case atStart => exact ⟨0, Nat.zero_le _, rfl, Lib.hid fun j hj hj1 => by omega⟩
        case round =>
          obtain ⟨pos, hpos, rfl, HU⟩ := hrel
          by_cases hp : pos < T.size
          · have hb := BA.out pos hp
            by_cases hdig : 48 ≤ (T[pos]'hp).toNat ∧ (T[pos]'hp).toNat ≤ 57
            · have HS : Hid (∀ j, j < pos + 1 + 1 → 1 ≤ j → 48 ≤ (s.data.toList.getD j 0).toNat ∧ (s.data.toList.getD j 0).toNat ≤ 57) := Lib.hid fun j hj hj1 => by
                by_cases e : j = pos + 1
                · subst e; rw [← hb]; exact hdig
                · exact HU.out j (by omega) hj1
              have hnx := fun ty => run_next_ascii (P := Tryz.prog) w T pos ty hp (by omega)
              have HB := Lib.hid hb
              clear hb
              obtain ⟨q1, q2⟩ := hdig
              have t1 : decide (((T[pos]'hp).toNat : Int) < 48) = false := decide_eq_false (by omega)
              have t2 : decide ((57 : Int) < ((T[pos]'hp).toNat : Int)) = false := decide_eq_false (by omega)
              clear q1 q2
              go_wp2_with fail
              go_roundw
              case rel => exact ⟨pos + 1, by omega, rfl, HS⟩
              case measure => simp; omega
            · have hr := rune_not hp hdig
              have hnx := fun ty => run_next_any (P := Tryz.prog) w T pos ty hp
              have e1 := Lib.hid (show formedB s.data.toList = false from by
                rw [e0.out]
                refine decide_eq_false fun h => hdig ?_
                have := h (pos + 1) (by rw [len_of]; have := BS.out; omega) (by omega)
                rwa [← hb] at this)
              have HB := Lib.hid hb
              clear hb hdig
              generalize (Utf8.decode T pos).1 = R at *
              generalize (Utf8.decode T pos).2 = V at *
              by_cases q1 : R < 48
              · have t1 : decide ((R : Int) < 48) = true := decide_eq_true (by omega)
                clear hr q1
                go_wp2_with fail
                go_ret
                exact ⟨ret_bool e1.out.symm, (Below.refl _ _).alloc (Nat.le_refl _) _⟩
              · have t1 : decide ((R : Int) < 48) = false := decide_eq_false (by omega)
                have t2 : decide ((57 : Int) < (R : Int)) = true := decide_eq_true (by omega)
                clear hr q1
                go_wp2_with fail
                go_ret
                exact ⟨ret_bool e1.out.symm, (Below.refl _ _).alloc (Nat.le_refl _) _⟩
          · have hnx := fun ty => run_next_end (P := Tryz.prog) w T pos ty hp
            have e1 := Lib.hid (show formedB s.data.toList = true from by
              rw [e0.out]
              refine decide_eq_true fun j hj hj1 => HU.out j (by rw [len_of] at hj; have := BS.out; omega) hj1)
            go_wp2_with fail
            go_ret
            exact ⟨ret_bool e1.out.symm, (Below.refl _ _).alloc (Nat.le_refl _) _⟩
      · have e1 := Lib.hid (show formedB s.data.toList = false from by
          unfold formedB
          rw [g0.out, g1.out, len_of, decide_eq_false (p := 2 ≤ s.size ∧ _) (by omega), Bool.false_and])
        by_cases a1 : (s[0]'s0).toNat < 65
        · have d3 : decide (((s[0]'s0).toNat : Int) < 65) = true := decide_eq_true (by omega)
          clear a1 ha h2 h4
          go_enter Tryz.func98, Tryz.ntmps98
          go_wp2_with fail
          go_ret
          exact ⟨ret_bool e1.out.symm, Below.refl _ _⟩
        · have d3 : decide (((s[0]'s0).toNat : Int) < 65) = false := decide_eq_false (by omega)
          by_cases a2 : 90 < (s[0]'s0).toNat
          · have d4 : decide ((90 : Int) < ((s[0]'s0).toNat : Int)) = true := decide_eq_true (by omega)
            clear a1 a2 ha h2 h4
            go_enter Tryz.func98, Tryz.ntmps98
            go_wp2_with fail
            go_ret
            exact ⟨ret_bool e1.out.symm, Below.refl _ _⟩
          · have d4 : decide ((90 : Int) < ((s[0]'s0).toNat : Int)) = false := decide_eq_false (by omega)
            have d5 : (((s[1]'s1).toNat : Int) == 48) = true := by rw [beq_iff_eq]; omega
            clear a1 a2 ha h2 h4
            go_enter Tryz.func98, Tryz.ntmps98
            go_wp2_with fail
            go_ret
            exact ⟨ret_bool e1.out.symm, Below.refl _ _⟩
end Go.Proofs.YtahdlijkohmdfaaGreatDoor
namespace Go.Proofs.YtahdlijkohmdfaaGreatDoor
open Go.RowKit

set_option maxHeartbeats 400000 in
theorem pparse_form (s : ByteArray) (hs : s.size ≤ 9223372036854775807) (w : World) (hf : formedB s.data.toList = false) :
    Calls Tryz.prog 80 #[.string s] w fun e w' => e = .returned (.tuple #[.agg #[.int .i64 (prC s.data.toList), .int .i64 (prR s.data.toList)], .int .i64 (prE s.data.toList)]) ∧ Below w.heap.size w w' := by
  have HF := Lib.hid (pformed_any s hs)
  have HP := Lib.hid (parse_form hf)
  rw [hf] at HF
  clear hf
  go_enter Tryz.func80, Tryz.ntmps80
  go_wp2_with fail
  refine (HF.out _).mono ?_; rintro e w1 ⟨rfl, b1⟩
  have k0 := keep_fresh b1 0 (v := .int .i64 0) rfl
  have k1 := keep_fresh b1 1 (v := .int .i64 0) rfl
  have f0 := keep_frozen b1 (p := ⟨w.heap.size, 0, none⟩) (by simp) (by simp [go_sem])
  have f1 := keep_frozen b1 (p := ⟨w.heap.size, 1, none⟩) (by simp) (by simp [go_sem])
  have h1 : Below w.heap.size w w1 := ((Below.refl _ _).alloc (Nat.le_refl _) _).trans (b1.mono (by simp))
  go_wp2_with fail
  exact bodyPost_ret (v := .tuple #[.agg #[.int .i64 0, .int .i64 0], .int .i64 2]) (by simp [results, Tryz.results80, go_sem, k0, k1]) rfl
    ⟨by rw [HP.out.1, HP.out.2.1, HP.out.2.2], (h1.setCell (by simp) _).setCell (by simp) _⟩

theorem ret_place {a b c d e f : Int} (h : a = b) (k : c = d) (m : e = f) : Ending.returned (.tuple #[.agg #[.int .i64 a, .int .i64 c], .int .i64 e]) = .returned (.tuple #[.agg #[.int .i64 b, .int .i64 d], .int .i64 f]) := by rw [h, k, m]
theorem ds_at {s : ByteArray} {ch : UInt8} {ds : List UInt8} (hl : s.data.toList = ch :: ds) (i : Nat) (h : i < (s.extract 1 s.size).size) : ds[i]? = some ((s.extract 1 s.size)[i]'h) := by
  have h2 : i + 1 < s.size := by rw [behind_size] at h; omega
  rw [behind_at, byte_getD s (i + 1) h2, ← byte_at s (i + 1) h2, hl, List.getElem?_cons_succ]
theorem dig_at {s : ByteArray} (hf : formedB s.data.toList = true) (i : Nat) (h : i < (s.extract 1 s.size).size) : 48 ≤ ((s.extract 1 s.size)[i]'h).toNat ∧ ((s.extract 1 s.size)[i]'h).toNat ≤ 57 := by
  have h2 : i + 1 < s.size := by rw [behind_size] at h; omega
  unfold formedB at hf
  rw [Bool.and_eq_true, decide_eq_true_eq, decide_eq_true_eq] at hf
  have := hf.2 (i + 1) (by rw [len_of]; exact h2) (by omega)
  rw [behind_at]
  exact this

theorem below_two {W w1 : World} {o p : Obj} (b : Below ((W.alloc o).alloc p).heap.size ((W.alloc o).alloc p) w1) : Below W.heap.size W w1 :=
  (((Below.refl _ W).alloc (Nat.le_refl _) o).alloc (by simp) p).trans (b.mono (by simp; omega))

set_option maxHeartbeats 1000000 in
theorem pparse_core (s : ByteArray) (ch : UInt8) (ds : List UInt8) (u : Nat) (w : World) (hf : formedB s.data.toList = true) (hl : s.data.toList = ch :: ds) (h65 : 65 ≤ ch.toNat) (h90 : ch.toNat ≤ 90) (hu1 : 1 ≤ u) (hu9 : u ≤ 999)
    (hu : Lib.decFrom 0 ds = some u) (hsz : s.size ≤ 4) (B : Bool) (hB : rightB ((ch.toNat : Int) - 65) ((u : Int) - 1) = B) :
    Calls Tryz.prog 80 #[.string s] w fun e w' => e = .returned (.tuple #[.agg #[.int .i64 (if B = true then (ch.toNat : Int) - 65 else 0), .int .i64 (if B = true then (u : Int) - 1 else 0)], .int .i64 (if B = true then 0 else 4)]) ∧ Below w.heap.size w w' := by
  have HF := Lib.hid (pformed_any s (by omega))
  rw [hf] at HF
  have HR := Lib.hid (pright_any ((ch.toNat : Int) - 65) ((u : Int) - 1))
  rw [hB] at HR
  have HD := Lib.hid (ds_at hl)
  have HG := Lib.hid (dig_at hf)
  have hlen : ds.length + 1 = s.size := by rw [← len_of, hl]; rfl
  have s0 : 0 < s.size := by omega
  have HC : Hid ((s[0]'s0) = ch) := Lib.hid (by
    have := byte_at s 0 s0
    rw [hl] at this
    exact (Option.some.inj this).symm)
  have hTs := behind_size s
  have HU := Lib.hid hu
  have hds : ds.length ≤ 17 := by omega
  have hT : (s.extract 1 s.size).size = ds.length := by omega
  have HT := Lib.hid hT
  have HL := Lib.hid hl
  have HLn := Lib.hid hlen
  have hs1 : 1 ≤ s.size := by omega
  clear hf hB hl hu hTs hT hlen
  go_enter Tryz.func80, Tryz.ntmps80
  go_wp2_with fail
  refine (HF.out _).mono ?_; rintro e w1 ⟨rfl, b1⟩
  have k0 := keep_fresh b1 0 (v := .int .i64 0) rfl
  have k1 := keep_fresh b1 1 (v := .int .i64 0) rfl
  have f0 := keep_frozen b1 (p := ⟨w.heap.size, 0, none⟩) (by simp) (by simp [go_sem])
  have f1 := keep_frozen b1 (p := ⟨w.heap.size, 1, none⟩) (by simp) (by simp [go_sem])
  have h1 : Below w.heap.size w w1 := ((Below.refl _ _).alloc (Nat.le_refl _) _).trans (b1.mono (by simp))
  have z1 : w.heap.size < w1.heap.size := by have := b1.size; simp at this; omega
  clear b1
  go_wp2_with fail
  generalize s.extract 1 s.size = T at *
  go_loopw [4] (fun v wr => ∃ pos line : Nat, pos ≤ T.size ∧ v = .int .i64 line ∧ wr = w1.iter T pos ∧ Hid (Lib.decFrom 0 (ds.take pos) = some line)) (fun _ wr => T.size - wr.iterPos w1.heap.size)
  case atStart => exact ⟨0, 0, Nat.zero_le _, rfl, rfl, Lib.hid rfl⟩
  case round =>
    obtain ⟨pos, line, hpos, rfl, rfl, HN⟩ := hrel
    have hlt := Lib.decFrom_take_lt (l := ds) HN.out (by have := HT.out; omega)
    by_cases hp : pos < T.size
    · obtain ⟨q1, q2⟩ := HG.out pos hp
      have hnx := fun ty => run_next_ascii (P := Tryz.prog) w1 T pos ty hp (by omega)
      have HS : Hid (Lib.decFrom 0 (ds.take (pos + 1)) = some (line * 10 + ((T[pos]'hp).toNat - 48))) := Lib.hid (Lib.decFrom_take ds pos 0 line (T[pos]'hp) _ HN.out (HD.out pos hp) (by unfold Lib.digitVal; rw [if_pos ⟨q1, q2⟩]))
      generalize (T[pos]'hp).toNat = b at *
      go_wp2_with fail
      go_roundw
      case rel => exact ⟨pos + 1, line * 10 + (b - 48), by omega, by congr 1; omega, rfl, HS⟩
      case measure => simp; omega
    · have hnx := fun ty => run_next_end (P := Tryz.prog) w1 T pos ty hp
      have hpe : ds.take pos = ds := List.take_of_length_le (by have := HT.out; omega)
      have hle : line = u := by
        have := HN.out
        rw [hpe, HU.out] at this
        exact (Option.some.inj this).symm
      clear hpe
      subst hle
      have hch := HC.out
      clear hlt
      cases B with
      | true =>
        go_wp2_with fail
        refine (HR.out _).mono ?_; rintro e w2 ⟨rfl, b2⟩
        have B2 : Below w1.heap.size w1 w2 := below_two b2
        have m0 := keep_cell B2 k0
        have m1 := keep_cell B2 k1
        have g0 := keep_frozen B2 z1 f0
        have g1 := keep_frozen B2 z1 f1
        have p0 : w2.cell? ⟨(w1.iter T pos).heap.size, 0, none⟩ = some (.int .i64 ((ch.toNat : Int) - 65)) := keep_fresh b2 0 rfl
        have p1 : w2.cell? ⟨(w1.iter T pos).heap.size, 1, none⟩ = some (.int .i64 ((line : Int) - 1)) := keep_fresh b2 1 rfl
        have h2 := h1.trans (B2.mono h1.size)
        clear B2 b2 k0 k1 f0 f1
        go_wp2_with fail
        exact bodyPost_ret (v := .tuple #[.agg #[.int .i64 ((ch.toNat : Int) - 65), .int .i64 ((line : Int) - 1)], .int .i64 0]) (by simp [results, Tryz.results80, go_sem, m0, m1]) rfl
          ⟨rfl, (h2.setCell (by simp) _).setCell (by simp) _⟩
      | false =>
        go_wp2_with fail
        refine (HR.out _).mono ?_; rintro e w2 ⟨rfl, b2⟩
        have B2 : Below w1.heap.size w1 w2 := below_two b2
        have m0 := keep_cell B2 k0
        have m1 := keep_cell B2 k1
        have g0 := keep_frozen B2 z1 f0
        have g1 := keep_frozen B2 z1 f1
        have h2 := h1.trans (B2.mono h1.size)
        clear B2 b2 k0 k1 f0 f1
        go_wp2_with fail
        exact bodyPost_ret (v := .tuple #[.agg #[.int .i64 0, .int .i64 0], .int .i64 4]) (by simp [results, Tryz.results80, go_sem, m0, m1]) rfl
          ⟨rfl, (h2.setCell (by simp) _).setCell (by simp) _⟩

theorem pparse_any (s : ByteArray) (hs : s.size ≤ 9223372036854775807) (w : World) :
    Calls Tryz.prog 80 #[.string s] w fun e w' => e = .returned (.tuple #[.agg #[.int .i64 (prC s.data.toList), .int .i64 (prR s.data.toList)], .int .i64 (prE s.data.toList)]) ∧ Below w.heap.size w w' := by
  cases hf : formedB s.data.toList with
  | false => exact pparse_form s hs w hf
  | true =>
    obtain ⟨ch, ds, u, hl, h65, h90, hu1, hu9, hd, hu⟩ := formed_parts hf
    have hsz : s.size ≤ 4 := by
      unfold formedB at hf
      rw [Bool.and_eq_true, decide_eq_true_eq, len_of] at hf
      exact hf.1.2.1
    have hf2 := hf
    rw [hl] at hf2
    cases hB : rightB ((ch.toNat : Int) - 65) ((u : Int) - 1) with
    | true =>
      have hb := (rightB_iff _ _).1 hB
      obtain ⟨e1, e2, e3⟩ := parse_yes hf2 h65 (by omega) hu1 (by omega) hd
      rw [hl, e1, e2, e3]
      exact pparse_core s ch ds u w hf hl h65 h90 hu1 hu9 hu hsz true hB
    | false =>
      have hb := (rightB_not _ _).1 hB
      obtain ⟨e1, e2, e3⟩ := parse_no hf2 (by omega) hd
      rw [hl, e1, e2, e3]
      exact pparse_core s ch ds u w hf hl h65 h90 hu1 hu9 hu hsz false hB
end Go.Proofs.YtahdlijkohmdfaaGreatDoor
