/- Texts joined: SrD, WrB, WrC, WrD. -/
import Derived.Test.YtahdlijkohmdfaaGreatDoorMp18
set_option linter.all false
set_option linter.unusedVariables false
set_option linter.unusedSimpArgs false
namespace Go.Proofs.YtahdlijkohmdfaaGreatDoor
open Go.RowKit

def fitB : Nat → Tr → Bool
  | 0, _ => false
  | d + 1, t => (!spareB t) && (soundB t && t.kids.all (fitB d))
theorem Strs.later {B : Nat} {w w' : World} (h : Strs B B w) (hB : B ≤ w.heap.size) (hb : Below w.heap.size w w') : Strs B B w' := h.keep fun _ _ _ hl hv => by rw [hb.cell (by omega)]; exact hv
def FitsC (d : Nat) : Prop := ∀ (q : Int), q = (d : Int) → ∀ (t : Tr), Wid t → ∀ (w : World) (P : Nat → Prop) (A : Option Addr) (ca : Nat), KV w P t A → ∀ (B : Nat), B ≤ w.heap.size → Strs B B w →
    Calls Tryz.prog 24 #[tv t A ca, .int .i64 q] w fun e w' => e = .returned (.bool (fitB d t)) ∧ Below w.heap.size w w'
theorem all_hit {p : Tr → Bool} {ks : List Tr} {i : Nat} {u : Tr} (h : ks[i]? = some u) (hp : p u = false) : ks.all p = false := by
  rw [Bool.eq_false_iff]
  intro ha
  have := List.all_eq_true.1 ha u (List.mem_of_getElem? h)
  rw [hp] at this; cases this
theorem all_miss {p : Tr → Bool} {ks : List Tr} (h : ∀ (j : Nat) (u : Tr), j < ks.length → ks[j]? = some u → p u = true) : ks.all p = true :=
  List.all_eq_true.2 fun u hu => by
    obtain ⟨j, hj⟩ := List.getElem?_of_mem hu
    exact h j u (List.getElem?_eq_some_iff.1 hj).1 hj
set_option maxHeartbeats 1000000 in
set_option maxRecDepth 10000 in
theorem pfits_zero : FitsC 0 := by
  intro q hq t ht w P A ca hA B hB hS
  obtain rfl : q = 0 := by omega
  have hlen := ht.len
  unfold maxLen at hlen
  unfold tv
  clear hA hS ht hB hq
  go_enter Tryz.func24, Tryz.ntmps24
  go_wp2_with fail
  go_ret
  exact ⟨rfl, (Below.refl _ _).alloc (Nat.le_refl _) _⟩
set_option maxHeartbeats 2000000 in
set_option maxRecDepth 10000 in
theorem pfits_succ {d : Nat} (hd : d ≤ 1000) (ih : FitsC d) : FitsC (d + 1) := by
  intro q hq t ht w P A ca hA B hB hS
  have hlen := ht.len
  unfold maxLen at hlen
  have b0 : Below w.heap.size w (w.alloc (.cells #[.int .i64 t.kind, .int .i64 t.num, .int .i64 t.c1, .int .i64 t.r1, .int .i64 t.c2, .int .i64 t.r2, .string ⟨t.word.toArray⟩, .slice A t.kids.length ca] 30)) := (Below.refl _ _).alloc (Nat.le_refl _) _
  have HP := Lib.hid (pspare_any t A ca)
  have HQ := Lib.hid (fun w' (hb : Below w.heap.size w w') => psound_any t ht w' P A ca (hA.kept (Kept.of_below hb)) (hS.later hB hb))
  have HA := Lib.hid hA
  have HS := Lib.hid hS
  have HT := Lib.hid ht
  have HI := Lib.hid ih
  have hq0 : (q == 0) = false := by rw [beq_eq_false_iff_ne]; omega
  have hqb : q ≤ 1001 := by omega
  have hqa : 1 ≤ q := by omega
  have HQD := Lib.hid hq
  unfold tv at *
  unfold fitB
  clear hA hS ht ih b0 hq
  cases hsp : spareB t with
  | true =>
    rw [hsp] at HP
    clear hsp
    go_enter Tryz.func24, Tryz.ntmps24
    go_wp2_with fail
    refine (HP.out _).mono ?_; rintro e w1 ⟨rfl, b1⟩
    have h1 : Below w.heap.size w w1 := ((Below.refl _ _).alloc (Nat.le_refl _) _).trans (b1.mono (by simp))
    clear b1
    go_wp2_with fail
    go_ret
    exact ⟨rfl, h1⟩
  | false =>
    rw [hsp] at HP
    clear hsp
    cases hso : soundB t with
    | false =>
      rw [hso] at HQ
      clear hso
      go_enter Tryz.func24, Tryz.ntmps24
      go_wp2_with fail
      refine (HP.out _).mono ?_; rintro e w1 ⟨rfl, b1⟩
      have k10 := keep_fresh b1 0 (v := .int .i64 t.kind) rfl
      have k11 := keep_fresh b1 1 (v := .int .i64 t.num) rfl
      have k12 := keep_fresh b1 2 (v := .int .i64 t.c1) rfl
      have k13 := keep_fresh b1 3 (v := .int .i64 t.r1) rfl
      have k14 := keep_fresh b1 4 (v := .int .i64 t.c2) rfl
      have k15 := keep_fresh b1 5 (v := .int .i64 t.r2) rfl
      have k16 := keep_fresh b1 6 (v := .string ⟨t.word.toArray⟩) rfl
      have k17 := keep_fresh b1 7 (v := .slice A t.kids.length ca) rfl
      have h1 : Below w.heap.size w w1 := ((Below.refl _ _).alloc (Nat.le_refl _) _).trans (b1.mono (by simp))
      clear b1
      go_wp2_with fail
      refine (HQ.out _ h1).mono ?_; rintro e w2 ⟨rfl, b2⟩
      have h2 := h1.trans (b2.mono h1.size)
      clear b2
      go_wp2_with fail
      go_ret
      exact ⟨rfl, h2⟩
    | true =>
      rw [hso] at HQ
      clear hso
      go_enter Tryz.func24, Tryz.ntmps24
      go_wp2_with fail
      refine (HP.out _).mono ?_; rintro e w1 ⟨rfl, b1⟩
      have k10 := keep_fresh b1 0 (v := .int .i64 t.kind) rfl
      have k11 := keep_fresh b1 1 (v := .int .i64 t.num) rfl
      have k12 := keep_fresh b1 2 (v := .int .i64 t.c1) rfl
      have k13 := keep_fresh b1 3 (v := .int .i64 t.r1) rfl
      have k14 := keep_fresh b1 4 (v := .int .i64 t.c2) rfl
      have k15 := keep_fresh b1 5 (v := .int .i64 t.r2) rfl
      have k16 := keep_fresh b1 6 (v := .string ⟨t.word.toArray⟩) rfl
      have k17 := keep_fresh b1 7 (v := .slice A t.kids.length ca) rfl
      have h1 : Below w.heap.size w w1 := ((Below.refl _ _).alloc (Nat.le_refl _) _).trans (b1.mono (by simp))
      clear b1
      go_wp2_with fail
      refine (HQ.out _ h1).mono ?_; rintro e w2 ⟨rfl, b2⟩
      have k20 := keep_cell b2 k10
      have k21 := keep_cell b2 k11
      have k22 := keep_cell b2 k12
      have k23 := keep_cell b2 k13
      have k24 := keep_cell b2 k14
      have k25 := keep_cell b2 k15
      have k26 := keep_cell b2 k16
      have k27 := keep_cell b2 k17
      have h2 := h1.trans (b2.mono h1.size)
      clear b2
      go_wp2_with fail
      go_loopw [21] (fun vi wr => ∃ i : Nat, i ≤ t.kids.length ∧ vi = .int .i64 (i : Int) ∧ Hid (∀ (j : Nat) (u : Tr), j < i → t.kids[j]? = some u → fitB d u = true) ∧ Below w.heap.size w wr) (fun vi _ => t.kids.length - (intOf vi).toNat)
      case atStart => exact ⟨0, Nat.zero_le _, rfl, Lib.hid fun j u hj => by omega, h2⟩
      case round =>
        obtain ⟨i, hi, rfl, HN, hbel⟩ := hrel
        by_cases hlt : i < t.kids.length
        · have ha : t.kids[i]? = some (t.kids[i]'hlt) := List.getElem?_eq_getElem hlt
          obtain ⟨g, o, rfl⟩ := HA.out.addr ha
          obtain ⟨hg, A', ca', h8, hkv⟩ := HA.out.kidAt hbel ha
          have HM := Lib.hid ha
          have hwq : wrap64 (q - 1) = q - 1 := IntWalk.wrap64_in _ (by omega)
          have HC := Lib.hid (fun ob => HI.out (q - 1) (by have := HQD.out; omega) (t.kids[i]'hlt) (HT.out.kid ha) (wr.alloc ob) (fun _ => True) A' ca' (hkv.kept (Kept.of_below ((Below.refl _ _).alloc (Nat.le_refl _) ob))) B (by have := hbel.size; simp; omega) (HS.out.later hB (hbel.alloc hbel.size ob)))
          generalize t.kids[i]'hlt = x at *
          unfold At8 at h8
          unfold tv at HC
          obtain ⟨q0, q1, q2, q3, q4, q5, q6, q7⟩ := h8
          clear hkv ha
          cases hp : fitB d x with
          | true =>
            rw [hp] at HC
            have HH := Lib.hid hp
            clear hp
            go_wp2_with fail
            refine (HC.out _).mono ?_; rintro e w3 ⟨rfl, b3⟩
            have hb1 : Below w.heap.size w w3 := (hbel.alloc hbel.size _).trans (b3.mono (by have := hbel.size; simp; omega))
            clear b3 q0 q1 q2 q3 q4 q5 q6 q7
            go_wp2_with fail
            go_roundw
            case rel => exact ⟨i + 1, by omega, by go_num, Lib.hid fun j u hj hu => by
              by_cases hji : j < i
              · exact HN.out j u hji hu
              · obtain rfl : j = i := by omega
                rw [HM.out] at hu; obtain rfl := Option.some.inj hu; exact HH.out, hb1⟩
            case measure => simp [intOf]; omega
          | false =>
            rw [hp] at HC
            have HH := Lib.hid (all_hit HM.out hp)
            clear hp
            go_wp2_with fail
            refine (HC.out _).mono ?_; rintro e w3 ⟨rfl, b3⟩
            have hb1 : Below w.heap.size w w3 := (hbel.alloc hbel.size _).trans (b3.mono (by have := hbel.size; simp; omega))
            clear b3 q0 q1 q2 q3 q4 q5 q6 q7
            go_wp2_with fail
            go_ret
            exact ⟨ret_bool (by rw [HH.out]; rfl), hb1⟩
        · have hii : i = t.kids.length := by omega
          subst hii
          have HH := Lib.hid (all_miss HN.out)
          go_wp2_with fail
          go_ret
          exact ⟨ret_bool (by rw [HH.out]; rfl), hbel⟩
theorem pfits_any : ∀ d, d ≤ 1000 → FitsC d
  | 0, _ => pfits_zero
  | d + 1, h => pfits_succ (by omega) (pfits_any d (by omega))
def rightP (t : Tr) : Bool := (t.kind != 6) && fitB 16 t
set_option maxHeartbeats 1000000 in
set_option maxRecDepth 10000 in
theorem sright_any (t : Tr) (ht : Wid t) (w : World) (P : Nat → Prop) (A : Option Addr) (ca : Nat) (hA : KV w P t A) (B : Nat) (hB : B ≤ w.heap.size) (hS : Strs B B w) :
    Calls Tryz.prog 10 #[tv t A ca] w fun e w' => e = .returned (.bool (rightP t)) ∧ Below w.heap.size w w' := by
  have H := Lib.hid (fun ob => pfits_any 16 (by decide) 16 rfl t ht (w.alloc ob) P A ca (hA.kept (Kept.of_below ((Below.refl _ _).alloc (Nat.le_refl _) ob))) B (by simp; omega) (hS.later hB ((Below.refl _ _).alloc (Nat.le_refl _) ob)))
  have hlen := ht.len
  unfold maxLen at hlen
  unfold tv at *
  unfold rightP
  clear hA hS
  cases h6 : (t.kind != 6) with
  | true =>
    go_enter Tryz.func10, Tryz.ntmps10
    go_wp2_with fail
    refine (H.out _).mono ?_; rintro e w1 ⟨rfl, b1⟩
    have h1 : Below w.heap.size w w1 := ((Below.refl _ _).alloc (Nat.le_refl _) _).trans (b1.mono (by simp))
    clear b1
    go_wp2_with fail
    go_ret
    exact ⟨ret_bool (Bool.true_and _).symm, h1⟩
  | false =>
    go_enter Tryz.func10, Tryz.ntmps10
    go_wp2_with fail
    go_ret
    exact ⟨rfl, (Below.refl _ _).alloc (Nat.le_refl _) _⟩
end Go.Proofs.YtahdlijkohmdfaaGreatDoor
namespace Go.Proofs.YtahdlijkohmdfaaGreatDoor
open Go.RowKit

set_option maxHeartbeats 2000000 in
set_option maxRecDepth 10000 in
theorem wpart_plain {w0 : World} {b : Nat} (t : Tr) (hlen : t.kids.length ≤ maxLen) (A : Option Addr) (ca : Nat) {s : List UInt8} (hP : WriteC w0 b 22 #[.pointer (some ⟨b, 0, none⟩), .agg #[.int .i64 t.kind, .int .i64 t.num, .int .i64 t.c1, .int .i64 t.r1, .int .i64 t.c2, .int .i64 t.r2, .string ⟨t.word.toArray⟩, .slice A t.kids.length ca]] s) (m : Int) (h4 : (t.kind != 4) = true) :
    WriteC w0 b 40 #[.pointer (some ⟨b, 0, none⟩), .agg #[.int .i64 t.kind, .int .i64 t.num, .int .i64 t.c1, .int .i64 t.r1, .int .i64 t.c2, .int .i64 t.r2, .string ⟨t.word.toArray⟩, .slice A t.kids.length ca], .int .i64 m] (s) := by
  intro w bs hW hl
  have HW := Lib.hid hW
  have HL := Lib.hid hl
  unfold maxLen at hlen
  have HPP := Lib.hid hP
  clear hP
  clear hW hl
  have hne : w.heap.size ≠ b := by have := HW.out.lt; omega
  have hb0 : (w.alloc (.cells #[.int .i64 t.kind, .int .i64 t.num, .int .i64 t.c1, .int .i64 t.r1, .int .i64 t.c2, .int .i64 t.r2, .string ⟨t.word.toArray⟩, .slice A t.kids.length ca] 30)).heap[w.heap.size]? = some (.cells #[.int .i64 t.kind, .int .i64 t.num, .int .i64 t.c1, .int .i64 t.r1, .int .i64 t.c2, .int .i64 t.r2, .string ⟨t.word.toArray⟩, .slice A t.kids.length ca] 30) := heap_alloc_new w _
  have HW0 := Lib.hid (HW.out.alloc (.cells #[.int .i64 t.kind, .int .i64 t.num, .int .i64 t.c1, .int .i64 t.r1, .int .i64 t.c2, .int .i64 t.r2, .string ⟨t.word.toArray⟩, .slice A t.kids.length ca] 30))
  have OK0 : Hid (Lib.OthersKept 5 (some b) w (w.alloc (.cells #[.int .i64 t.kind, .int .i64 t.num, .int .i64 t.c1, .int .i64 t.r1, .int .i64 t.c2, .int .i64 t.r2, .string ⟨t.word.toArray⟩, .slice A t.kids.length ca] 30))) := Lib.hid (others_below ((Below.refl _ _).alloc (Nat.le_refl _) _))
  have s0 : w.heap.size ≤ (w.alloc (.cells #[.int .i64 t.kind, .int .i64 t.num, .int .i64 t.c1, .int .i64 t.r1, .int .i64 t.c2, .int .i64 t.r2, .string ⟨t.word.toArray⟩, .slice A t.kids.length ca] 30)).heap.size := by simp
  have S0 := Lib.hid s0
  clear s0
  go_enter Tryz.func40, Tryz.ntmps40
  go_wp2_with fail
  refine (HPP.out _ bs HW0.out HL.out).mono ?_; rintro e w1 ⟨rfl, hw, hk, hs⟩
  have HW1 := Lib.hid hw
  have hb1 := blk_kept hk hb0 hne
  have OK1 := Lib.hid (OK0.out.trans hk)
  have S1 := Lib.hid (Nat.le_trans S0.out hs)
  clear hw hk hs hb0
  go_wp2_with fail
  first | go_end0 | (refine bodyPost_ret (results_none rfl _ _ _) rfl ?_)
  exact ⟨rfl,  HW1.out, OK1.out, S1.out⟩
set_option maxHeartbeats 2000000 in
set_option maxRecDepth 10000 in
theorem wpart_strong {w0 : World} {b : Nat} (t : Tr) (hlen : t.kids.length ≤ maxLen) (A : Option Addr) (ca : Nat) {s : List UInt8} (hP : WriteC w0 b 22 #[.pointer (some ⟨b, 0, none⟩), .agg #[.int .i64 t.kind, .int .i64 t.num, .int .i64 t.c1, .int .i64 t.r1, .int .i64 t.c2, .int .i64 t.r2, .string ⟨t.word.toArray⟩, .slice A t.kids.length ca]] s) (m : Int) (h4 : (t.kind != 4) = false) (hm : decide (m ≤ (lvl t.word : Int) - 1) = true) (hS : Strs w0.heap.size w0.heap.size w0) :
    WriteC w0 b 40 #[.pointer (some ⟨b, 0, none⟩), .agg #[.int .i64 t.kind, .int .i64 t.num, .int .i64 t.c1, .int .i64 t.r1, .int .i64 t.c2, .int .i64 t.r2, .string ⟨t.word.toArray⟩, .slice A t.kids.length ca], .int .i64 m] (s) := by
  intro w bs hW hl
  have HW := Lib.hid hW
  have HL := Lib.hid hl
  unfold maxLen at hlen
  have HPP := Lib.hid hP
  have HST := Lib.hid (fun w' (hb : Below w0.heap.size w0 w') => strength_any _ _ w' ⟨t.word.toArray⟩ (hS.later (Nat.le_refl _) hb))
  rw [strV_lvl] at HST
  generalize (lvl t.word : Int) - 1 = lv at *
  clear hS
  clear hP
  clear hW hl
  have hne : w.heap.size ≠ b := by have := HW.out.lt; omega
  have hb0 : (w.alloc (.cells #[.int .i64 t.kind, .int .i64 t.num, .int .i64 t.c1, .int .i64 t.r1, .int .i64 t.c2, .int .i64 t.r2, .string ⟨t.word.toArray⟩, .slice A t.kids.length ca] 30)).heap[w.heap.size]? = some (.cells #[.int .i64 t.kind, .int .i64 t.num, .int .i64 t.c1, .int .i64 t.r1, .int .i64 t.c2, .int .i64 t.r2, .string ⟨t.word.toArray⟩, .slice A t.kids.length ca] 30) := heap_alloc_new w _
  have HW0 := Lib.hid (HW.out.alloc (.cells #[.int .i64 t.kind, .int .i64 t.num, .int .i64 t.c1, .int .i64 t.r1, .int .i64 t.c2, .int .i64 t.r2, .string ⟨t.word.toArray⟩, .slice A t.kids.length ca] 30))
  have OK0 : Hid (Lib.OthersKept 5 (some b) w (w.alloc (.cells #[.int .i64 t.kind, .int .i64 t.num, .int .i64 t.c1, .int .i64 t.r1, .int .i64 t.c2, .int .i64 t.r2, .string ⟨t.word.toArray⟩, .slice A t.kids.length ca] 30))) := Lib.hid (others_below ((Below.refl _ _).alloc (Nat.le_refl _) _))
  have s0 : w.heap.size ≤ (w.alloc (.cells #[.int .i64 t.kind, .int .i64 t.num, .int .i64 t.c1, .int .i64 t.r1, .int .i64 t.c2, .int .i64 t.r2, .string ⟨t.word.toArray⟩, .slice A t.kids.length ca] 30)).heap.size := by simp
  have S0 := Lib.hid s0
  clear s0
  go_enter Tryz.func40, Tryz.ntmps40
  go_wp2_with fail
  refine (HST.out _ HW0.out.low).mono ?_; rintro e w9 ⟨rfl, rfl⟩
  go_wp2_with fail
  refine (HPP.out _ bs HW0.out HL.out).mono ?_; rintro e w1 ⟨rfl, hw, hk, hs⟩
  have HW1 := Lib.hid hw
  have hb1 := blk_kept hk hb0 hne
  have OK1 := Lib.hid (OK0.out.trans hk)
  have S1 := Lib.hid (Nat.le_trans S0.out hs)
  clear hw hk hs hb0
  go_wp2_with fail
  first | go_end0 | (refine bodyPost_ret (results_none rfl _ _ _) rfl ?_)
  exact ⟨rfl,  HW1.out, OK1.out, S1.out⟩
set_option maxHeartbeats 2000000 in
set_option maxRecDepth 10000 in
theorem wpart_weak {w0 : World} {b : Nat} (t : Tr) (hlen : t.kids.length ≤ maxLen) (A : Option Addr) (ca : Nat) {s : List UInt8} (hP : WriteC w0 b 22 #[.pointer (some ⟨b, 0, none⟩), .agg #[.int .i64 t.kind, .int .i64 t.num, .int .i64 t.c1, .int .i64 t.r1, .int .i64 t.c2, .int .i64 t.r2, .string ⟨t.word.toArray⟩, .slice A t.kids.length ca]] s) (m : Int) (h4 : (t.kind != 4) = false) (hm : decide (m ≤ (lvl t.word : Int) - 1) = false) (hS : Strs w0.heap.size w0.heap.size w0) :
    WriteC w0 b 40 #[.pointer (some ⟨b, 0, none⟩), .agg #[.int .i64 t.kind, .int .i64 t.num, .int .i64 t.c1, .int .i64 t.r1, .int .i64 t.c2, .int .i64 t.r2, .string ⟨t.word.toArray⟩, .slice A t.kids.length ca], .int .i64 m] (40 :: (s ++ [41])) := by
  intro w bs hW hl
  have HW := Lib.hid hW
  have HL := Lib.hid hl
  unfold maxLen at hlen
  have HPP := Lib.hid hP
  have HST := Lib.hid (fun w' (hb : Below w0.heap.size w0 w') => strength_any _ _ w' ⟨t.word.toArray⟩ (hS.later (Nat.le_refl _) hb))
  rw [strV_lvl] at HST
  generalize (lvl t.word : Int) - 1 = lv at *
  clear hS hP
  clear hW hl
  have hne : w.heap.size ≠ b := by have := HW.out.lt; omega
  have hb0 : (w.alloc (.cells #[.int .i64 t.kind, .int .i64 t.num, .int .i64 t.c1, .int .i64 t.r1, .int .i64 t.c2, .int .i64 t.r2, .string ⟨t.word.toArray⟩, .slice A t.kids.length ca] 30)).heap[w.heap.size]? = some (.cells #[.int .i64 t.kind, .int .i64 t.num, .int .i64 t.c1, .int .i64 t.r1, .int .i64 t.c2, .int .i64 t.r2, .string ⟨t.word.toArray⟩, .slice A t.kids.length ca] 30) := heap_alloc_new w _
  have HW0 := Lib.hid (HW.out.alloc (.cells #[.int .i64 t.kind, .int .i64 t.num, .int .i64 t.c1, .int .i64 t.r1, .int .i64 t.c2, .int .i64 t.r2, .string ⟨t.word.toArray⟩, .slice A t.kids.length ca] 30))
  have OK0 : Hid (Lib.OthersKept 5 (some b) w (w.alloc (.cells #[.int .i64 t.kind, .int .i64 t.num, .int .i64 t.c1, .int .i64 t.r1, .int .i64 t.c2, .int .i64 t.r2, .string ⟨t.word.toArray⟩, .slice A t.kids.length ca] 30))) := Lib.hid (others_below ((Below.refl _ _).alloc (Nat.le_refl _) _))
  have s0 : w.heap.size ≤ (w.alloc (.cells #[.int .i64 t.kind, .int .i64 t.num, .int .i64 t.c1, .int .i64 t.r1, .int .i64 t.c2, .int .i64 t.r2, .string ⟨t.word.toArray⟩, .slice A t.kids.length ca] 30)).heap.size := by simp
  have S0 := Lib.hid s0
  clear s0
  go_enter Tryz.func40, Tryz.ntmps40
  go_wp2_with fail
  refine (HST.out _ HW0.out.low).mono ?_; rintro e w9 ⟨rfl, rfl⟩
  go_wp2_with fail
  refine (swrite_any (b := b) ⟨#[40]⟩ _ bs HW0.out (by have h := HL.out; simp at h ⊢; omega)).mono ?_; rintro e w1 ⟨rfl, hw, hk, hs⟩
  have HW1 := Lib.hid hw
  have hb1 := blk_kept hk hb0 hne
  have OK1 := Lib.hid (OK0.out.trans hk)
  have S1 := Lib.hid (Nat.le_trans S0.out hs)
  clear hw hk hs hb0
  obtain ⟨c10, c11, c12, c13, c14, c15, c16, c17⟩ := cells8_of hb1
  go_wp2_with fail
  refine (HPP.out _ _ HW1.out (by have h := HL.out; simp at h ⊢; omega)).mono ?_; rintro e w2 ⟨rfl, hw, hk, hs⟩
  have HW2 := Lib.hid hw
  have hb2 := blk_kept hk hb1 hne
  have OK2 := Lib.hid (OK1.out.trans hk)
  have S2 := Lib.hid (Nat.le_trans S1.out hs)
  clear hw hk hs hb1 c10 c11 c12 c13 c14 c15 c16 c17
  obtain ⟨c20, c21, c22, c23, c24, c25, c26, c27⟩ := cells8_of hb2
  go_wp2_with fail
  refine (swrite_any (b := b) ⟨#[41]⟩ _ _ HW2.out (by have h := HL.out; simp at h ⊢; omega)).mono ?_; rintro e w3 ⟨rfl, hw, hk, hs⟩
  have HW3 := Lib.hid hw
  have hb3 := blk_kept hk hb2 hne
  have OK3 := Lib.hid (OK2.out.trans hk)
  have S3 := Lib.hid (Nat.le_trans S2.out hs)
  clear hw hk hs hb2
  go_wp2_with fail
  first | go_end0 | (refine bodyPost_ret (results_none rfl _ _ _) rfl ?_)
  exact ⟨rfl, by simpa using HW3.out, OK3.out, S3.out⟩
theorem wpart_any {w0 : World} {b : Nat} (t : Tr) (hlen : t.kids.length ≤ maxLen) (A : Option Addr) (ca : Nat) (hP : WriteC w0 b 22 #[.pointer (some ⟨b, 0, none⟩), .agg #[.int .i64 t.kind, .int .i64 t.num, .int .i64 t.c1, .int .i64 t.r1, .int .i64 t.c2, .int .i64 t.r2, .string ⟨t.word.toArray⟩, .slice A t.kids.length ca]] (txT t)) (m : Nat) (hS : Strs w0.heap.size w0.heap.size w0) :
    WriteC w0 b 40 #[.pointer (some ⟨b, 0, none⟩), .agg #[.int .i64 t.kind, .int .i64 t.num, .int .i64 t.c1, .int .i64 t.r1, .int .i64 t.c2, .int .i64 t.r2, .string ⟨t.word.toArray⟩, .slice A t.kids.length ca], .int .i64 ((m : Int) - 1)] (txW m t (txT t)) := by
  unfold txW
  by_cases h4 : t.kind = 4
  · have h4' : (t.kind != 4) = false := by rw [bne_eq_false_iff_eq]; exact h4
    by_cases hl : lvl t.word < m
    · rw [if_pos ⟨h4, hl⟩]
      exact wpart_weak t hlen A ca hP _ h4' (decide_eq_false (by omega)) hS
    · rw [if_neg (fun h => hl h.2)]
      exact wpart_strong t hlen A ca hP _ h4' (decide_eq_true (by omega)) hS
  · rw [if_neg (fun h => h4 h.1)]
    exact wpart_plain t hlen A ca hP _ (by rw [bne_iff_ne]; exact h4)
end Go.Proofs.YtahdlijkohmdfaaGreatDoor
namespace Go.Proofs.YtahdlijkohmdfaaGreatDoor
open Go.RowKit

set_option maxHeartbeats 2000000 in
set_option maxRecDepth 10000 in
theorem wneg_any {w0 : World} {b : Nat} (t : Tr) (hlen : t.kids.length ≤ maxLen) (h1 : t.kids.length = 1) (g o ca : Nat) (n0 : (t.kind == 0) = false) (n1 : (t.kind == 1) = false) (n2 : (t.kind == 2) = false) (y : (t.kind == 3) = true) {u : Tr} {A' : Option Addr} {c' : Nat} (h8 : At8 w0 g o u A' c') {s : List UInt8} (hP : WriteC w0 b 40 #[.pointer (some ⟨b, 0, none⟩), .agg #[.int .i64 u.kind, .int .i64 u.num, .int .i64 u.c1, .int .i64 u.r1, .int .i64 u.c2, .int .i64 u.r2, .string ⟨u.word.toArray⟩, .slice A' u.kids.length c'], .int .i64 3] s) :
    WriteC w0 b 22 #[.pointer (some ⟨b, 0, none⟩), .agg #[.int .i64 t.kind, .int .i64 t.num, .int .i64 t.c1, .int .i64 t.r1, .int .i64 t.c2, .int .i64 t.r2, .string ⟨t.word.toArray⟩, .slice (some ⟨g, o, none⟩) t.kids.length ca]] (45 :: s) := by
  intro w bs hW hl
  have HW := Lib.hid hW
  have HL := Lib.hid hl
  have HPP := Lib.hid hP
  have H8 := Lib.hid h8
  rw [h1]
  clear hP h8 h1
  clear hW hl
  have hne : w.heap.size ≠ b := by have := HW.out.lt; omega
  have hb0 : (w.alloc (.cells #[.int .i64 t.kind, .int .i64 t.num, .int .i64 t.c1, .int .i64 t.r1, .int .i64 t.c2, .int .i64 t.r2, .string ⟨t.word.toArray⟩, .slice (some ⟨g, o, none⟩) 1 ca] 30)).heap[w.heap.size]? = some (.cells #[.int .i64 t.kind, .int .i64 t.num, .int .i64 t.c1, .int .i64 t.r1, .int .i64 t.c2, .int .i64 t.r2, .string ⟨t.word.toArray⟩, .slice (some ⟨g, o, none⟩) 1 ca] 30) := heap_alloc_new w _
  have HW0 := Lib.hid (HW.out.alloc (.cells #[.int .i64 t.kind, .int .i64 t.num, .int .i64 t.c1, .int .i64 t.r1, .int .i64 t.c2, .int .i64 t.r2, .string ⟨t.word.toArray⟩, .slice (some ⟨g, o, none⟩) 1 ca] 30))
  have OK0 : Hid (Lib.OthersKept 5 (some b) w (w.alloc (.cells #[.int .i64 t.kind, .int .i64 t.num, .int .i64 t.c1, .int .i64 t.r1, .int .i64 t.c2, .int .i64 t.r2, .string ⟨t.word.toArray⟩, .slice (some ⟨g, o, none⟩) 1 ca] 30))) := Lib.hid (others_below ((Below.refl _ _).alloc (Nat.le_refl _) _))
  have s0 : w.heap.size ≤ (w.alloc (.cells #[.int .i64 t.kind, .int .i64 t.num, .int .i64 t.c1, .int .i64 t.r1, .int .i64 t.c2, .int .i64 t.r2, .string ⟨t.word.toArray⟩, .slice (some ⟨g, o, none⟩) 1 ca] 30)).heap.size := by simp
  have S0 := Lib.hid s0
  clear s0
  go_enter Tryz.func22, Tryz.ntmps22
  go_wp2_with fail
  refine (swrite_any (b := b) ⟨#[45]⟩ _ bs HW0.out (by have h := HL.out; simp at h ⊢; omega)).mono ?_; rintro e w1 ⟨rfl, hw, hk, hs⟩
  have HW1 := Lib.hid hw
  have hb1 := blk_kept hk hb0 hne
  have OK1 := Lib.hid (OK0.out.trans hk)
  have S1 := Lib.hid (Nat.le_trans S0.out hs)
  clear hw hk hs hb0
  obtain ⟨c10, c11, c12, c13, c14, c15, c16, c17⟩ := cells8_of hb1
  obtain ⟨q0, q1, q2, q3, q4, q5, q6, q7⟩ := H8.out.kept (P := fun _ => True) (Kept.of_below HW1.out.low) trivial
  go_wp2_with fail
  refine (HPP.out _ _ HW1.out (by have h := HL.out; simp at h ⊢; omega)).mono ?_; rintro e w2 ⟨rfl, hw, hk, hs⟩
  have HW2 := Lib.hid hw
  have hb2 := blk_kept hk hb1 hne
  have OK2 := Lib.hid (OK1.out.trans hk)
  have S2 := Lib.hid (Nat.le_trans S1.out hs)
  clear hw hk hs hb1
  go_wp2_with fail
  first | go_end0 | (refine bodyPost_ret (results_none rfl _ _ _) rfl ?_)
  exact ⟨rfl, by simpa using HW2.out, OK2.out, S2.out⟩
set_option maxHeartbeats 2000000 in
set_option maxRecDepth 10000 in
theorem wop_any {w0 : World} {b : Nat} (t : Tr) (hlen : t.kids.length ≤ maxLen) (h2 : t.kids.length = 2) (g o ca : Nat) (n0 : (t.kind == 0) = false) (n1 : (t.kind == 1) = false) (n2 : (t.kind == 2) = false) (n3 : (t.kind == 3) = false) (y : (t.kind == 4) = true) (hS : Strs w0.heap.size w0.heap.size w0) {u : Tr} {A' : Option Addr} {c' : Nat} (h8 : At8 w0 g o u A' c') {v : Tr} {B' : Option Addr} {d' : Nat} (k8 : At8 w0 g (o + 8) v B' d') {s1 s2 : List UInt8} (hP1 : WriteC w0 b 40 #[.pointer (some ⟨b, 0, none⟩), .agg #[.int .i64 u.kind, .int .i64 u.num, .int .i64 u.c1, .int .i64 u.r1, .int .i64 u.c2, .int .i64 u.r2, .string ⟨u.word.toArray⟩, .slice A' u.kids.length c'], .int .i64 ((lvl t.word : Int) - 1)] s1) (hP2 : WriteC w0 b 40 #[.pointer (some ⟨b, 0, none⟩), .agg #[.int .i64 v.kind, .int .i64 v.num, .int .i64 v.c1, .int .i64 v.r1, .int .i64 v.c2, .int .i64 v.r2, .string ⟨v.word.toArray⟩, .slice B' v.kids.length d'], .int .i64 (((lvl t.word + 1 : Nat) : Int) - 1)] s2) :
    WriteC w0 b 22 #[.pointer (some ⟨b, 0, none⟩), .agg #[.int .i64 t.kind, .int .i64 t.num, .int .i64 t.c1, .int .i64 t.r1, .int .i64 t.c2, .int .i64 t.r2, .string ⟨t.word.toArray⟩, .slice (some ⟨g, o, none⟩) t.kids.length ca]] (s1 ++ (t.word ++ s2)) := by
  intro w bs hW hl
  have HW := Lib.hid hW
  have HL := Lib.hid hl
  have HP1 := Lib.hid hP1
  have HP2 := Lib.hid hP2
  have H8 := Lib.hid h8
  have K8 := Lib.hid k8
  have HST := Lib.hid (fun w' (hb : Below w0.heap.size w0 w') => strength_any _ _ w' ⟨t.word.toArray⟩ (hS.later (Nat.le_refl _) hb))
  rw [strV_lvl] at HST
  have hlv : (lvl t.word : Int) - 1 + 1 = (((lvl t.word + 1 : Nat) : Int) - 1) := by omega
  have hlb : lvl t.word ≤ 3 := lvl_le t.word
  rw [← hlv] at HP2
  have hlw : -1 ≤ (lvl t.word : Int) - 1 ∧ (lvl t.word : Int) - 1 ≤ 2 := by omega
  generalize (lvl t.word : Int) - 1 = lv at *
  rw [h2]
  clear hP1 hP2 h8 k8 hS hlv hlb h2
  obtain ⟨hlw1, hlw2⟩ := hlw
  clear hW hl
  have hne : w.heap.size ≠ b := by have := HW.out.lt; omega
  have hb0 : (w.alloc (.cells #[.int .i64 t.kind, .int .i64 t.num, .int .i64 t.c1, .int .i64 t.r1, .int .i64 t.c2, .int .i64 t.r2, .string ⟨t.word.toArray⟩, .slice (some ⟨g, o, none⟩) 2 ca] 30)).heap[w.heap.size]? = some (.cells #[.int .i64 t.kind, .int .i64 t.num, .int .i64 t.c1, .int .i64 t.r1, .int .i64 t.c2, .int .i64 t.r2, .string ⟨t.word.toArray⟩, .slice (some ⟨g, o, none⟩) 2 ca] 30) := heap_alloc_new w _
  have HW0 := Lib.hid (HW.out.alloc (.cells #[.int .i64 t.kind, .int .i64 t.num, .int .i64 t.c1, .int .i64 t.r1, .int .i64 t.c2, .int .i64 t.r2, .string ⟨t.word.toArray⟩, .slice (some ⟨g, o, none⟩) 2 ca] 30))
  have OK0 : Hid (Lib.OthersKept 5 (some b) w (w.alloc (.cells #[.int .i64 t.kind, .int .i64 t.num, .int .i64 t.c1, .int .i64 t.r1, .int .i64 t.c2, .int .i64 t.r2, .string ⟨t.word.toArray⟩, .slice (some ⟨g, o, none⟩) 2 ca] 30))) := Lib.hid (others_below ((Below.refl _ _).alloc (Nat.le_refl _) _))
  have s0 : w.heap.size ≤ (w.alloc (.cells #[.int .i64 t.kind, .int .i64 t.num, .int .i64 t.c1, .int .i64 t.r1, .int .i64 t.c2, .int .i64 t.r2, .string ⟨t.word.toArray⟩, .slice (some ⟨g, o, none⟩) 2 ca] 30)).heap.size := by simp
  have S0 := Lib.hid s0
  clear s0
  go_enter Tryz.func22, Tryz.ntmps22
  go_wp2_with fail
  refine (HST.out _ HW0.out.low).mono ?_; rintro e w9 ⟨rfl, rfl⟩
  obtain ⟨q0, q1, q2, q3, q4, q5, q6, q7⟩ := H8.out.kept (P := fun _ => True) (Kept.of_below HW0.out.low) trivial
  go_wp2_with fail
  refine (HP1.out _ bs HW0.out (by have h := HL.out; simp at h ⊢; omega)).mono ?_; rintro e w1 ⟨rfl, hw, hk, hs⟩
  have HW1 := Lib.hid hw
  have hb1 := blk_kept hk hb0 hne
  have OK1 := Lib.hid (OK0.out.trans hk)
  have S1 := Lib.hid (Nat.le_trans S0.out hs)
  clear hw hk hs hb0
  obtain ⟨c10, c11, c12, c13, c14, c15, c16, c17⟩ := cells8_of hb1
  go_wp2_with fail
  refine (swrite_any (b := b) ⟨t.word.toArray⟩ _ _ HW1.out (by have h := HL.out; simp at h ⊢; omega)).mono ?_; rintro e w2 ⟨rfl, hw, hk, hs⟩
  have HW2 := Lib.hid hw
  have hb2 := blk_kept hk hb1 hne
  have OK2 := Lib.hid (OK1.out.trans hk)
  have S2 := Lib.hid (Nat.le_trans S1.out hs)
  clear hw hk hs hb1 c10 c11 c12 c13 c14 c15 c16 c17
  obtain ⟨c20, c21, c22, c23, c24, c25, c26, c27⟩ := cells8_of hb2
  obtain ⟨r0, r1, r2, r3, r4, r5, r6, r7⟩ := K8.out.kept (P := fun _ => True) (Kept.of_below HW2.out.low) trivial
  go_wp2_with fail
  refine (HP2.out _ _ HW2.out (by have h := HL.out; simp at h ⊢; omega)).mono ?_; rintro e w3 ⟨rfl, hw, hk, hs⟩
  have HW3 := Lib.hid hw
  have hb3 := blk_kept hk hb2 hne
  have OK3 := Lib.hid (OK2.out.trans hk)
  have S3 := Lib.hid (Nat.le_trans S2.out hs)
  clear hw hk hs hb2
  go_wp2_with fail
  first | go_end0 | (refine bodyPost_ret (results_none rfl _ _ _) rfl ?_)
  exact ⟨rfl, by simpa using HW3.out, OK3.out, S3.out⟩
end Go.Proofs.YtahdlijkohmdfaaGreatDoor
namespace Go.Proofs.YtahdlijkohmdfaaGreatDoor
open Go.RowKit

def txK : List (List UInt8) → List UInt8
  | [] => []
  | s :: r => (44 :: s) ++ txK r
theorem txJ_txK : ∀ (s : List UInt8) (r : List (List UInt8)), txJ (s :: r) = s ++ (txK r ++ [41])
  | s, [] => by simp [txJ, txK]
  | s, t :: r => by
    show s ++ 44 :: txJ (t :: r) = _
    rw [txJ_txK t r]
    simp [txK]
def txH : List (List UInt8) → List UInt8
  | [] => []
  | s :: r => 40 :: (s ++ txK r)
theorem txH_all : ∀ (l : List (List UInt8)), l ≠ [] → txH l ++ [41] = 40 :: txJ l
  | [], h => absurd rfl h
  | s :: r, _ => by rw [txJ_txK]; simp [txH]
theorem txK_snoc : ∀ (l : List (List UInt8)) (s : List UInt8), txK (l ++ [s]) = txK l ++ 44 :: s
  | [], s => by simp [txK]
  | x :: r, s => by simp only [List.cons_append, txK, txK_snoc r s, List.append_assoc]
def mkB (i : Nat) : UInt8 := if i = 0 then 40 else 44
theorem txH_snoc : ∀ (l : List (List UInt8)) (s : List UInt8), txH (l ++ [s]) = txH l ++ mkB l.length :: s
  | [], s => by simp [txH, txK, mkB]
  | x :: r, s => by simp only [List.cons_append, txH, txK_snoc]; simp [mkB]
theorem txL_map : ∀ ks : List Tr, txL ks = ks.map txT
  | [] => by rw [txL_nil]; rfl
  | t :: ts => by rw [txL_cons, txL_map ts]; rfl
theorem txH_take {ks : List Tr} {i : Nat} {u : Tr} (h : ks[i]? = some u) : txH (txL (ks.take (i + 1))) = txH (txL (ks.take i)) ++ mkB i :: txT u := by
  have hl : (ks.take i).length = i := by have := (List.getElem?_eq_some_iff.1 h).1; simp; omega
  rw [List.take_add_one, h]
  show txH (txL (ks.take i ++ [u])) = _
  rw [txL_map, List.map_append, ← txL_map]
  show txH (txL (ks.take i) ++ [txT u]) = _
  rw [txH_snoc, txL_map, List.length_map, hl]
theorem txK_len : ∀ (l m : List (List UInt8)), (txK l).length ≤ (txK (l ++ m)).length
  | [], m => by simp [txK]
  | x :: r, m => by simp only [List.cons_append, txK, List.length_append, List.length_cons]; have := txK_len r m; omega
theorem txH_len : ∀ (l m : List (List UInt8)), (txH l).length ≤ (txH (l ++ m)).length
  | [], m => by simp [txH]
  | x :: r, m => by simp only [List.cons_append, txH, List.length_append, List.length_cons]; have := txK_len r m; omega
theorem txH_take_le (ks : List Tr) (i : Nat) : (txH (txL (ks.take i))).length ≤ (txH (txL ks)).length := by
  have h : ks = ks.take i ++ ks.drop i := (List.take_append_drop i ks).symm
  have h2 : txL ks = txL (ks.take i) ++ txL (ks.drop i) := by rw [txL_map, txL_map, txL_map, ← List.map_append, ← h]
  rw [h2]
  exact txH_len _ _
set_option maxHeartbeats 2000000 in
set_option maxRecDepth 10000 in
theorem wcallp_any {w0 : World} {b : Nat} (t : Tr) (hlen : t.kids.length ≤ maxLen) (A : Option Addr) (ca : Nat) (hA : KV w0 (fun _ => True) t A) (hB : w0.heap.size ≤ b) (hP : ∀ u ∈ t.kids, ∀ (A' : Option Addr) (c' : Nat), KV w0 (fun _ => True) u A' → WriteC w0 b 22 #[.pointer (some ⟨b, 0, none⟩), tv u A' c'] (txT u)) :
    WriteC w0 b 42 #[.pointer (some ⟨b, 0, none⟩), .agg #[.int .i64 t.kind, .int .i64 t.num, .int .i64 t.c1, .int .i64 t.r1, .int .i64 t.c2, .int .i64 t.r2, .string ⟨t.word.toArray⟩, .slice A t.kids.length ca]] (t.word ++ (txH (txL t.kids) ++ [41])) := by
  intro w bs hW hl
  have HW := Lib.hid hW
  have HL := Lib.hid hl
  have HA := Lib.hid hA
  have HP := Lib.hid hP
  unfold maxLen at hlen
  clear hW hl hA hP
  have hne : w.heap.size ≠ b := by have := HW.out.lt; omega
  have hb0 : (w.alloc (.cells #[.int .i64 t.kind, .int .i64 t.num, .int .i64 t.c1, .int .i64 t.r1, .int .i64 t.c2, .int .i64 t.r2, .string ⟨t.word.toArray⟩, .slice A t.kids.length ca] 30)).heap[w.heap.size]? = some (.cells #[.int .i64 t.kind, .int .i64 t.num, .int .i64 t.c1, .int .i64 t.r1, .int .i64 t.c2, .int .i64 t.r2, .string ⟨t.word.toArray⟩, .slice A t.kids.length ca] 30) := heap_alloc_new w _
  have HW0 := Lib.hid (HW.out.alloc (.cells #[.int .i64 t.kind, .int .i64 t.num, .int .i64 t.c1, .int .i64 t.r1, .int .i64 t.c2, .int .i64 t.r2, .string ⟨t.word.toArray⟩, .slice A t.kids.length ca] 30))
  have OK0 : Hid (Lib.OthersKept 5 (some b) w (w.alloc (.cells #[.int .i64 t.kind, .int .i64 t.num, .int .i64 t.c1, .int .i64 t.r1, .int .i64 t.c2, .int .i64 t.r2, .string ⟨t.word.toArray⟩, .slice A t.kids.length ca] 30))) := Lib.hid (others_below ((Below.refl _ _).alloc (Nat.le_refl _) _))
  have s0 : w.heap.size ≤ (w.alloc (.cells #[.int .i64 t.kind, .int .i64 t.num, .int .i64 t.c1, .int .i64 t.r1, .int .i64 t.c2, .int .i64 t.r2, .string ⟨t.word.toArray⟩, .slice A t.kids.length ca] 30)).heap.size := by simp
  have S0 := Lib.hid s0
  clear s0
  go_enter Tryz.func42, Tryz.ntmps42
  go_wp2_with fail
  refine (swrite_any (b := b) ⟨t.word.toArray⟩ _ bs HW0.out (by have h := HL.out; simp at h ⊢; omega)).mono ?_; rintro e w1 ⟨rfl, hw, hk, hs⟩
  have HW1 := Lib.hid hw
  have hb1 := blk_kept hk hb0 hne
  have OK1 := Lib.hid (OK0.out.trans hk)
  have S1 := Lib.hid (Nat.le_trans S0.out hs)
  clear hw hk hs hb0
  obtain ⟨c10, c11, c12, c13, c14, c15, c16, c17⟩ := cells8_of hb1
  go_wp2_with fail
  have HBS := Lib.hid (show w0.heap.size ≤ b from hB)
  go_loopw [4, 14] (fun vb vi wr => ∃ i : Nat, i ≤ t.kids.length ∧ vb = .string ⟨#[mkB i]⟩ ∧ vi = .int .i64 (i : Int) ∧ Hid (WC w0 wr b (bs ++ t.word ++ txH (txL (t.kids.take i)))) ∧ Hid (Lib.OthersKept 5 (some b) w wr) ∧ Hid (w.heap.size ≤ wr.heap.size)) (fun _ vi _ => t.kids.length - (intOf vi).toNat)
  case atStart => exact ⟨0, Nat.zero_le _, rfl, rfl, Lib.hid (by have h := HW1.out; simpa [txL_nil, txH] using h), OK1, S1⟩
  case round =>
    obtain ⟨i, hi, rfl, rfl, HWr, OKr, Sr⟩ := hrel
    clear hb1 c10 c11 c12 c13 c14 c15 c16 c17 HW1 OK1 S1
    by_cases hlt : i < t.kids.length
    · have ha : t.kids[i]? = some (t.kids[i]'hlt) := List.getElem?_eq_getElem hlt
      obtain ⟨g, o, rfl⟩ := HA.out.addr ha
      obtain ⟨_, hg, A', c', h8, hkv⟩ := HA.out.kid ha
      rw [Nat.mul_comm] at h8
      have HTT := Lib.hid (txH_take ha)
      have hle := txH_take_le t.kids (i + 1)
      rw [HTT.out] at hle
      have HPu := Lib.hid (HP.out _ (List.getElem_mem hlt) A' c' hkv)
      have q8 := h8.kept (P := fun _ => True) (Kept.of_below HWr.out.low) trivial
      generalize t.kids[i]'hlt = u at *
      unfold tv at HPu
      obtain ⟨q0, q1, q2, q3, q4, q5, q6, q7⟩ := q8
      have nek : wr.heap.size ≠ b := by have := HWr.out.lt; omega
      have hu0 : (wr.alloc (.cells #[.int .i64 u.kind, .int .i64 u.num, .int .i64 u.c1, .int .i64 u.r1, .int .i64 u.c2, .int .i64 u.r2, .string ⟨u.word.toArray⟩, .slice A' u.kids.length c'] 30)).heap[wr.heap.size]? = some (.cells #[.int .i64 u.kind, .int .i64 u.num, .int .i64 u.c1, .int .i64 u.r1, .int .i64 u.c2, .int .i64 u.r2, .string ⟨u.word.toArray⟩, .slice A' u.kids.length c'] 30) := heap_alloc_new wr _
      have hlL := Lib.hid (show (bs ++ t.word ++ txH (txL (t.kids.take i))).length + (mkB i :: txT u).length ≤ 140737488355328 by have h := HL.out; simp at h hle ⊢; omega)
      have HS := Lib.hid (swrite_any (b := b) ⟨#[mkB i]⟩ (wr.alloc (.cells #[.int .i64 u.kind, .int .i64 u.num, .int .i64 u.c1, .int .i64 u.r1, .int .i64 u.c2, .int .i64 u.r2, .string ⟨u.word.toArray⟩, .slice A' u.kids.length c'] 30)) _ (HWr.out.alloc _) (by have h := hlL.out; simp at h ⊢; omega))
      clear ha h8 hkv hle
      go_wp2_with fail
      refine HS.out.mono ?_; rintro e w2 ⟨rfl, hw2, hk2, hs2⟩
      have hu2 := blk_kept hk2 hu0 nek
      obtain ⟨r0, r1, r2, r3, r4, r5, r6, r7⟩ := cells8_of hu2
      have HW2 := Lib.hid hw2
      have OK2 := Lib.hid ((OKr.out.trans (others_below ((Below.refl _ _).alloc (Nat.le_refl _) (.cells #[.int .i64 u.kind, .int .i64 u.num, .int .i64 u.c1, .int .i64 u.r1, .int .i64 u.c2, .int .i64 u.r2, .string ⟨u.word.toArray⟩, .slice A' u.kids.length c'] 30)))).trans hk2)
      have S2 := Lib.hid (show w.heap.size ≤ w2.heap.size by have := Sr.out; simp at hs2; omega)
      clear hw2 hk2 hs2 q0 q1 q2 q3 q4 q5 q6 q7 hu0 hu2
      go_wp2_with fail
      refine (HPu.out _ _ HW2.out (by have h := hlL.out; simp at h ⊢; omega)).mono ?_; rintro e w3 ⟨rfl, hw3, hk3, hs3⟩
      have HW3 : Hid (WC w0 w3 b (bs ++ t.word ++ txH (txL (t.kids.take (i + 1))))) := Lib.hid (by rw [HTT.out]; have h := hw3; simpa using h)
      have OK3 := Lib.hid (OK2.out.trans hk3)
      have S3 := Lib.hid (Nat.le_trans S2.out hs3)
      clear hw3 hk3 hs3 r0 r1 r2 r3 r4 r5 r6 r7
      go_wp2_with fail
      go_roundw
      case rel => exact ⟨i + 1, by omega, rfl, by go_num, HW3, OK3, S3⟩
      case measure => simp [intOf]; omega
    · have hii : i = t.kids.length := by omega
      subst hii
      have HE : Hid (WC w0 wr b (bs ++ t.word ++ txH (txL t.kids))) := Lib.hid (by have h := HWr.out; rwa [List.take_length] at h)
      have HS := Lib.hid (swrite_any (b := b) ⟨#[41]⟩ wr _ HE.out (by have h := HL.out; simp at h ⊢; omega))
      go_wp2_with fail
      refine HS.out.mono ?_; rintro e w2 ⟨rfl, hw2, hk2, hs2⟩
      have HF := Lib.hid (And.intro hw2 (And.intro hk2 hs2))
      clear hw2 hk2 hs2
      go_wp2_with fail
      first | go_end0 | (refine bodyPost_ret (results_none rfl _ _ _) rfl ?_)
      exact ⟨rfl, by simpa using HF.out.1, OKr.out.trans HF.out.2.1, Nat.le_trans Sr.out HF.out.2.2⟩
set_option maxHeartbeats 2000000 in
set_option maxRecDepth 10000 in
theorem wcall_any {w0 : World} {b : Nat} (t : Tr) (hlen : t.kids.length ≤ maxLen) (A : Option Addr) (ca : Nat) (n0 : (t.kind == 0) = false) (n1 : (t.kind == 1) = false) (n2 : (t.kind == 2) = false) (n3 : (t.kind == 3) = false) (n4 : (t.kind == 4) = false) (y : (t.kind == 5) = true) {s : List UInt8} (hP : WriteC w0 b 42 #[.pointer (some ⟨b, 0, none⟩), .agg #[.int .i64 t.kind, .int .i64 t.num, .int .i64 t.c1, .int .i64 t.r1, .int .i64 t.c2, .int .i64 t.r2, .string ⟨t.word.toArray⟩, .slice A t.kids.length ca]] s) :
    WriteC w0 b 22 #[.pointer (some ⟨b, 0, none⟩), .agg #[.int .i64 t.kind, .int .i64 t.num, .int .i64 t.c1, .int .i64 t.r1, .int .i64 t.c2, .int .i64 t.r2, .string ⟨t.word.toArray⟩, .slice A t.kids.length ca]] (s) := by
  intro w bs hW hl
  have HW := Lib.hid hW
  have HL := Lib.hid hl
  unfold maxLen at hlen
  have HPP := Lib.hid hP
  clear hP
  clear hW hl
  have hne : w.heap.size ≠ b := by have := HW.out.lt; omega
  have hb0 : (w.alloc (.cells #[.int .i64 t.kind, .int .i64 t.num, .int .i64 t.c1, .int .i64 t.r1, .int .i64 t.c2, .int .i64 t.r2, .string ⟨t.word.toArray⟩, .slice A t.kids.length ca] 30)).heap[w.heap.size]? = some (.cells #[.int .i64 t.kind, .int .i64 t.num, .int .i64 t.c1, .int .i64 t.r1, .int .i64 t.c2, .int .i64 t.r2, .string ⟨t.word.toArray⟩, .slice A t.kids.length ca] 30) := heap_alloc_new w _
  have HW0 := Lib.hid (HW.out.alloc (.cells #[.int .i64 t.kind, .int .i64 t.num, .int .i64 t.c1, .int .i64 t.r1, .int .i64 t.c2, .int .i64 t.r2, .string ⟨t.word.toArray⟩, .slice A t.kids.length ca] 30))
  have OK0 : Hid (Lib.OthersKept 5 (some b) w (w.alloc (.cells #[.int .i64 t.kind, .int .i64 t.num, .int .i64 t.c1, .int .i64 t.r1, .int .i64 t.c2, .int .i64 t.r2, .string ⟨t.word.toArray⟩, .slice A t.kids.length ca] 30))) := Lib.hid (others_below ((Below.refl _ _).alloc (Nat.le_refl _) _))
  have s0 : w.heap.size ≤ (w.alloc (.cells #[.int .i64 t.kind, .int .i64 t.num, .int .i64 t.c1, .int .i64 t.r1, .int .i64 t.c2, .int .i64 t.r2, .string ⟨t.word.toArray⟩, .slice A t.kids.length ca] 30)).heap.size := by simp
  have S0 := Lib.hid s0
  clear s0
  go_enter Tryz.func22, Tryz.ntmps22
  go_wp2_with fail
  refine (HPP.out _ bs HW0.out HL.out).mono ?_; rintro e w1 ⟨rfl, hw, hk, hs⟩
  have HW1 := Lib.hid hw
  have hb1 := blk_kept hk hb0 hne
  have OK1 := Lib.hid (OK0.out.trans hk)
  have S1 := Lib.hid (Nat.le_trans S0.out hs)
  clear hw hk hs hb0
  go_wp2_with fail
  first | go_end0 | (refine bodyPost_ret (results_none rfl _ _ _) rfl ?_)
  exact ⟨rfl,  HW1.out, OK1.out, S1.out⟩
end Go.Proofs.YtahdlijkohmdfaaGreatDoor
