/- Texts joined: SrD, RfB, RfC, RfD, RefGa, RefH. -/
import Derived.Test.YteflmfifhmlpiaaDoorMa14
import Derived.Test.YteflmfifhmlpiaaDoorMa12
import Derived.Test.YteflmfifhmlpiaaDoorMa10
import Derived.Test.YteflmfifhmlpiaaDoorMa13
import Derived.Shelf.Abstract
import Derived.Shelf.RegionOpen
import Derived.WalkKit
import Derived.OwnWalkIn
import Derived.TacticsInMore
import Derived.LoopNIn
import Derived.LoopIn
import Derived.Test.YteflmfifhmlpiaaDoorMa11
import Derived.OwnWalk
import Derived.Deep.Onto
import Derived.Deep.QuietTactic
import Derived.BigQuiet
set_option linter.all false
set_option linter.unusedVariables false
set_option linter.unusedSimpArgs false
namespace Go.Proofs.YteflmfifhmlpiaaDoor
open Go.RowKit

def fitB : Nat → Tr → Bool
  | 0, _ => false
  | d + 1, t => (!spareB t) && (soundB t && t.kids.all (fitB d))
theorem Strs.later {B : Nat} {w w' : World} (h : Strs B B w) (hB : B ≤ w.heap.size) (hb : Below w.heap.size w w') : Strs B B w' := h.keep fun _ _ _ hl hv => by rw [hb.cell (by omega)]; exact hv
def FitsC (d : Nat) : Prop := ∀ (q : Int), q = (d : Int) → ∀ (t : Tr), Wid t → ∀ (w : World) (P : Nat → Prop) (A : Option Addr) (ca : Nat), KV w P t A → ∀ (B : Nat), B ≤ w.heap.size → Strs B B w →
    Calls Tryd.prog 44 #[tv t A ca, .int .i64 q] w fun e w' => e = .returned (.bool (fitB d t)) ∧ Below w.heap.size w w'
theorem all_hit {p : Tr → Bool} {ks : List Tr} {i : Nat} {u : Tr} (h : ks[i]? = some u) (hp : p u = false) : ks.all p = false := by
  rw [Bool.eq_false_iff]
  intro ha
  have := List.all_eq_true.1 ha u (List.mem_of_getElem? h)
  rw [hp] at this; cases this
theorem all_miss {p : Tr → Bool} {ks : List Tr} (h : ∀ (j : Nat) (u : Tr), j < ks.length → ks[j]? = some u → p u = true) : ks.all p = true :=
  List.all_eq_true.2 fun u hu => by
    obtain ⟨j, hj⟩ := List.getElem?_of_mem hu
    exact h j u (List.getElem?_eq_some_iff.1 hj).1 hj
set_option maxHeartbeats 1000000 in
set_option maxRecDepth 10000 in
theorem pfits_zero : FitsC 0 := by
  intro q hq t ht w P A ca hA B hB hS
  obtain rfl : q = 0 := by omega
  have hlen := ht.len
  unfold maxLen at hlen
  unfold tv
  clear hA hS ht hB hq
  go_enter Tryd.func44, Tryd.ntmps44
  go_wp2_with fail
  go_ret
  exact ⟨rfl, (Below.refl _ _).alloc (Nat.le_refl _) _⟩
set_option maxHeartbeats 2000000 in
set_option maxRecDepth 10000 in
theorem pfits_succ {d : Nat} (hd : d ≤ 1000) (ih : FitsC d) : FitsC (d + 1) := by
  intro q hq t ht w P A ca hA B hB hS
  have hlen := ht.len
  unfold maxLen at hlen
  have b0 : Below w.heap.size w (w.alloc (.cells #[.int .i64 t.kind, .int .i64 t.num, .int .i64 t.c1, .int .i64 t.r1, .int .i64 t.c2, .int .i64 t.r2, .string ⟨t.word.toArray⟩, .slice A t.kids.length ca] 29)) := (Below.refl _ _).alloc (Nat.le_refl _) _
  have HP := Lib.hid (pspare_any t A ca)
  have HQ := Lib.hid (fun w' (hb : Below w.heap.size w w') => psound_any t ht w' P A ca (hA.kept (Kept.of_below hb)) (hS.later hB hb))
  have HA := Lib.hid hA
  have HS := Lib.hid hS
  have HT := Lib.hid ht
  have HI := Lib.hid ih
  have hq0 : (q == 0) = false := by rw [beq_eq_false_iff_ne]; omega
  have hqb : q ≤ 1001 := by omega
  have hqa : 1 ≤ q := by omega
  have HQD := Lib.hid hq
  unfold tv at *
  unfold fitB
  clear hA hS ht ih b0 hq
  cases hsp : spareB t with
  | true =>
    rw [hsp] at HP
    clear hsp
    go_enter Tryd.func44, Tryd.ntmps44
    go_wp2_with fail
    refine (HP.out _).mono ?_; rintro e w1 ⟨rfl, b1⟩
    have h1 : Below w.heap.size w w1 := ((Below.refl _ _).alloc (Nat.le_refl _) _).trans (b1.mono (by simp))
    clear b1
    go_wp2_with fail
    go_ret
    exact ⟨rfl, h1⟩
  | false =>
    rw [hsp] at HP
    clear hsp
    cases hso : soundB t with
    | false =>
      rw [hso] at HQ
      clear hso
      go_enter Tryd.func44, Tryd.ntmps44
      go_wp2_with fail
      refine (HP.out _).mono ?_; rintro e w1 ⟨rfl, b1⟩
      have k10 := keep_fresh b1 0 (v := .int .i64 t.kind) rfl
      have k11 := keep_fresh b1 1 (v := .int .i64 t.num) rfl
      have k12 := keep_fresh b1 2 (v := .int .i64 t.c1) rfl
      have k13 := keep_fresh b1 3 (v := .int .i64 t.r1) rfl
      have k14 := keep_fresh b1 4 (v := .int .i64 t.c2) rfl
      have k15 := keep_fresh b1 5 (v := .int .i64 t.r2) rfl
      have k16 := keep_fresh b1 6 (v := .string ⟨t.word.toArray⟩) rfl
      have k17 := keep_fresh b1 7 (v := .slice A t.kids.length ca) rfl
      have h1 : Below w.heap.size w w1 := ((Below.refl _ _).alloc (Nat.le_refl _) _).trans (b1.mono (by simp))
      clear b1
      go_wp2_with fail
      refine (HQ.out _ h1).mono ?_; rintro e w2 ⟨rfl, b2⟩
      have h2 := h1.trans (b2.mono h1.size)
      clear b2
      go_wp2_with fail
      go_ret
      exact ⟨rfl, h2⟩
    | true =>
      rw [hso] at HQ
      clear hso
      go_enter Tryd.func44, Tryd.ntmps44
      go_wp2_with fail
      refine (HP.out _).mono ?_; rintro e w1 ⟨rfl, b1⟩
      have k10 := keep_fresh b1 0 (v := .int .i64 t.kind) rfl
      have k11 := keep_fresh b1 1 (v := .int .i64 t.num) rfl
      have k12 := keep_fresh b1 2 (v := .int .i64 t.c1) rfl
      have k13 := keep_fresh b1 3 (v := .int .i64 t.r1) rfl
      have k14 := keep_fresh b1 4 (v := .int .i64 t.c2) rfl
      have k15 := keep_fresh b1 5 (v := .int .i64 t.r2) rfl
      have k16 := keep_fresh b1 6 (v := .string ⟨t.word.toArray⟩) rfl
      have k17 := keep_fresh b1 7 (v := .slice A t.kids.length ca) rfl
      have h1 : Below w.heap.size w w1 := ((Below.refl _ _).alloc (Nat.le_refl _) _).trans (b1.mono (by simp))
      clear b1
      go_wp2_with fail
      refine (HQ.out _ h1).mono ?_; rintro e w2 ⟨rfl, b2⟩
      have k20 := keep_cell b2 k10
      have k21 := keep_cell b2 k11
      have k22 := keep_cell b2 k12
      have k23 := keep_cell b2 k13
      have k24 := keep_cell b2 k14
      have k25 := keep_cell b2 k15
      have k26 := keep_cell b2 k16
      have k27 := keep_cell b2 k17
      have h2 := h1.trans (b2.mono h1.size)
      clear b2
      go_wp2_with fail
      go_loopw [21] (fun vi wr => ∃ i : Nat, i ≤ t.kids.length ∧ vi = .int .i64 (i : Int) ∧ Hid (∀ (j : Nat) (u : Tr), j < i → t.kids[j]? = some u → fitB d u = true) ∧ Below w.heap.size w wr) (fun vi _ => t.kids.length - (intOf vi).toNat)
      case atStart => exact ⟨0, Nat.zero_le _, rfl, Lib.hid fun j u hj => by omega, h2⟩
      case round =>
        obtain ⟨i, hi, rfl, HN, hbel⟩ := hrel
        by_cases hlt : i < t.kids.length
        · have ha : t.kids[i]? = some (t.kids[i]'hlt) := List.getElem?_eq_getElem hlt
          obtain ⟨g, o, rfl⟩ := HA.out.addr ha
          obtain ⟨hg, A', ca', h8, hkv⟩ := HA.out.kidAt hbel ha
          have HM := Lib.hid ha
          have hwq : wrap64 (q - 1) = q - 1 := IntWalk.wrap64_in _ (by omega)
          have HC := Lib.hid (fun ob => HI.out (q - 1) (by have := HQD.out; omega) (t.kids[i]'hlt) (HT.out.kid ha) (wr.alloc ob) (fun _ => True) A' ca' (hkv.kept (Kept.of_below ((Below.refl _ _).alloc (Nat.le_refl _) ob))) B (by have := hbel.size; simp; omega) (HS.out.later hB (hbel.alloc hbel.size ob)))
          generalize t.kids[i]'hlt = x at *
          unfold At8 at h8
          unfold tv at HC
          obtain ⟨q0, q1, q2, q3, q4, q5, q6, q7⟩ := h8
          clear hkv ha
          cases hp : fitB d x with
          | true =>
            rw [hp] at HC
            have HH := Lib.hid hp
            clear hp
            go_wp2_with fail
            refine (HC.out _).mono ?_; rintro e w3 ⟨rfl, b3⟩
            have hb1 : Below w.heap.size w w3 := (hbel.alloc hbel.size _).trans (b3.mono (by have := hbel.size; simp; omega))
            clear b3 q0 q1 q2 q3 q4 q5 q6 q7
            go_wp2_with fail
            go_roundw
            case rel => exact ⟨i + 1, by omega, by go_num, Lib.hid fun j u hj hu => by
              by_cases hji : j < i
              · exact HN.out j u hji hu
              · obtain rfl : j = i := by omega
                rw [HM.out] at hu; obtain rfl := Option.some.inj hu; exact HH.out, hb1⟩
            case measure => simp [intOf]; omega
          | false =>
            rw [hp] at HC
            have HH := Lib.hid (all_hit HM.out hp)
            clear hp
            go_wp2_with fail
            refine (HC.out _).mono ?_; rintro e w3 ⟨rfl, b3⟩
            have hb1 : Below w.heap.size w w3 := (hbel.alloc hbel.size _).trans (b3.mono (by have := hbel.size; simp; omega))
            clear b3 q0 q1 q2 q3 q4 q5 q6 q7
            go_wp2_with fail
            go_ret
            exact ⟨ret_bool (by rw [HH.out]; rfl), hb1⟩
        · have hii : i = t.kids.length := by omega
          subst hii
          have HH := Lib.hid (all_miss HN.out)
          go_wp2_with fail
          go_ret
          exact ⟨ret_bool (by rw [HH.out]; rfl), hbel⟩
theorem pfits_any : ∀ d, d ≤ 1000 → FitsC d
  | 0, _ => pfits_zero
  | d + 1, h => pfits_succ (by omega) (pfits_any d (by omega))
def rightP (t : Tr) : Bool := (t.kind != 6) && fitB 16 t
set_option maxHeartbeats 1000000 in
set_option maxRecDepth 10000 in
theorem sright_any (t : Tr) (ht : Wid t) (w : World) (P : Nat → Prop) (A : Option Addr) (ca : Nat) (hA : KV w P t A) (B : Nat) (hB : B ≤ w.heap.size) (hS : Strs B B w) :
    Calls Tryd.prog 25 #[tv t A ca] w fun e w' => e = .returned (.bool (rightP t)) ∧ Below w.heap.size w w' := by
  have H := Lib.hid (fun ob => pfits_any 16 (by decide) 16 rfl t ht (w.alloc ob) P A ca (hA.kept (Kept.of_below ((Below.refl _ _).alloc (Nat.le_refl _) ob))) B (by simp; omega) (hS.later hB ((Below.refl _ _).alloc (Nat.le_refl _) ob)))
  have hlen := ht.len
  unfold maxLen at hlen
  unfold tv at *
  unfold rightP
  clear hA hS
  cases h6 : (t.kind != 6) with
  | true =>
    go_enter Tryd.func25, Tryd.ntmps25
    go_wp2_with fail
    refine (H.out _).mono ?_; rintro e w1 ⟨rfl, b1⟩
    have h1 : Below w.heap.size w w1 := ((Below.refl _ _).alloc (Nat.le_refl _) _).trans (b1.mono (by simp))
    clear b1
    go_wp2_with fail
    go_ret
    exact ⟨ret_bool (Bool.true_and _).symm, h1⟩
  | false =>
    go_enter Tryd.func25, Tryd.ntmps25
    go_wp2_with fail
    go_ret
    exact ⟨rfl, (Below.refl _ _).alloc (Nat.le_refl _) _⟩
end Go.Proofs.YteflmfifhmlpiaaDoor
namespace Go.Proofs.YteflmfifhmlpiaaDoor
open Go.RowKit Go.Shelf

attribute [local go_sem] Oper.semAt_some

theorem Sav.kept {C P : Nat → Prop} {w w' : World} (h : Sav C w w') (hp : ∀ k, P k → ¬ C k) : Kept w w' P := ⟨h.size, fun g hg hl => h.block g hl (hp g hg)⟩
theorem ptL_take {ks : List Tr} {i : Nat} {u : Tr} (h : ks[i]? = some u) : ptL (ks.take (i + 1)) = ptL (ks.take i) ++ ptT u := by
  have key : ∀ (l m : List Tr), ptL (l ++ m) = ptL l ++ ptL m := by
    intro l m
    induction l with
    | nil => rfl
    | cons a r ih => rw [List.cons_append, ptL, ptL, ih, List.append_assoc]
  rw [List.take_add_one, h, key]
  show _ ++ ptL [u] = _
  rw [ptL, ptL, List.append_nil]
theorem ptL_take_pre {ks : List Tr} (i : Nat) : ptL (ks.take i) <+: ptL ks := by
  have key : ∀ (l m : List Tr), ptL (l ++ m) = ptL l ++ ptL m := by
    intro l m
    induction l with
    | nil => rfl
    | cons a r ih => rw [List.cons_append, ptL, ptL, ih, List.append_assoc]
  refine ⟨ptL (ks.drop i), ?_⟩
  rw [← key, List.take_append_drop]
def SubAt (xs : List Tr) (i : Nat) (ys : List Tr) : Prop := ∀ j u, ys[j]? = some u → xs[i + j]? = some u
def DescC (l : Nat) (C : Nat → Prop) (J : Nat → World → Prop) (Jx : World → Prop) (xs : List Tr) (W0 : World) (t : Tr) : Prop := ∀ (i : Nat) (W : World) (A : Option Addr) (ca : Nat),
  SubAt xs i (ptT t) → KV W (fun b => ¬ C b) t A → Sav C W0 W → J i W →
  Calls Tryd.prog 55 #[.agg #[.int .i64 t.kind, .int .i64 t.num, .int .i64 t.c1, .int .i64 t.r1, .int .i64 t.c2, .int .i64 t.r2, .string ⟨t.word.toArray⟩, .slice A t.kids.length ca], .func (.yield l) #[] #[]] W fun e B =>
    Sav C W B ∧ (e = .returned (.bool true) ∧ J (i + cntT t) B ∨ e = .returned (.bool false) ∧ Jx B)
def encT (t : Tr) (args : Array Value) : Prop := ∃ A ca, args = #[tv t A ca]
set_option maxHeartbeats 4000000 in
set_option maxRecDepth 100000 in
theorem desc_level {l : Nat} {C : Nat → Prop} {J : Nat → World → Prop} {Jx : World → Prop} {xs : List Tr} {W0 : World} (hC : ∀ k, C k → k < W0.heap.size)
    (hJ : ∀ i A B, Below W0.heap.size A B → J i A → J i B) (hJx : ∀ A B, Below W0.heap.size A B → Jx A → Jx B)
    (hY : ∀ (m i : Nat) (x : Tr) (args : Array Value) (A : World), xs[i]? = some x → encT x args → Sav C W0 A → J i A →
      YieldAt Fence.wide m Tryd.prog l args A fun e B => Sav C A B ∧ (e = .returned (.bool true) ∧ J (i + 1) B ∨ e = .returned (.bool false) ∧ Jx B))
    (t : Tr) (hlen : t.kids.length ≤ 1000000) (ih : ∀ u ∈ t.kids, DescC l C J Jx xs W0 u) : DescC l C J Jx xs W0 t := by
  intro i W A ca hsub hk hs hj
  have hsz := hs.size
  obtain ⟨V, hV⟩ : ∃ V, W.alloc (.cells #[.int .i64 t.kind, .int .i64 t.num, .int .i64 t.c1, .int .i64 t.r1, .int .i64 t.c2, .int .i64 t.r2, .string ⟨t.word.toArray⟩, .slice A t.kids.length ca] 29) = V := ⟨_, rfl⟩
  have hbV : Below W.heap.size W V := by rw [← hV]; exact (Below.refl _ _).alloc (Nat.le_refl _) _
  have hsV : Sav C W0 V := hs.trans (Sav.of_below hbV)
  have zV : W.heap.size < V.heap.size := by rw [← hV]; simp
  have hx0 : xs[i]? = some t := by
    have := hsub 0 t (by rw [ptT_eq]; rfl)
    simpa using this
  obtain ⟨fn, tmps, assign, body, hy, hR⟩ := hY 8 i t _ V hx0 ⟨A, ca, rfl⟩ hsV (hJ i W V (hbV.mono hsz) hj)
  unfold tv at hy
  have HK := Lib.hid hk
  have HI := Lib.hid ih
  have nC : ∀ k, W0.heap.size ≤ k → ¬ C k := fun k hk h => by have := hC k h; omega
  have HN := Lib.hid nC
  have HS := Lib.hid hs
  have HSub := Lib.hid hsub
  clear hk ih hj hsub
  refine (callsIn_wide (n := 9)).1 (callsIn_of_wp Tryd.func55 rfl trivial ?_ rfl)
  simp only [Tryd.ntmps55, List.size_toArray, List.length_cons, List.length_nil, Nat.reduceAdd, Nat.reduceSub, Array.replicate_succ, Array.replicate_zero, List.push_toArray, List.append_toArray, List.nil_append, List.cons_append]
  have v7 : V.cell? ⟨W.heap.size, 7, none⟩ = some (.slice A t.kids.length ca) := by rw [← hV]; simp [go_sem]
  have HV := Lib.hid hV
  rw [← hV] at hy hR
  clear hV
  gi_wp2
  refine hR.mono ?_
  rintro e B (⟨hsB, ⟨rfl, hJB⟩ | ⟨rfl, hXB⟩⟩)
  · rw [HV.out] at hsB
    have hk7 : B.cell? ⟨W.heap.size, 7, none⟩ = some (.slice A t.kids.length ca) := hsB.cell (HN.out _ hsz) v7
    have hWB : Sav C W B := (Sav.of_below hbV).trans hsB
    have HWB := Lib.hid hWB
    have HJB := Lib.hid hJB
    clear hsB hWB hJB v7 hy hR
    gi_wp2
    gi_loopw [14] (fun n wr => ∃ k : Nat, k ≤ t.kids.length ∧ n = .int .i64 (k : Int) ∧ Sav C W wr ∧ J (i + 1 + (ptL (t.kids.take k)).length) wr) (fun n _ => t.kids.length - (intOf n).toNat)
    case atStart => exact ⟨0, Nat.zero_le _, rfl, HWB.out, by rw [List.take_zero, ptL]; exact HJB.out⟩
    case round =>
      obtain ⟨k, hkl, rfl, hsw, hjw⟩ := hrel
      have hzw := hsw.size
      by_cases hlt : k < t.kids.length
      · have hu : t.kids[k]? = some (t.kids[k]'hlt) := List.getElem?_eq_getElem hlt
        obtain ⟨g, o, rfl⟩ := HK.out.addr hu
        obtain ⟨hgC, hgl, A', ca', h8, hkv⟩ := (HK.out.kept (hsw.kept fun _ h => h)).kid hu
        rw [Nat.mul_comm 8 k] at h8
        have hT := ptL_take hu
        have HT := Lib.hid hT
        have hsub : SubAt xs (i + 1 + (ptL (t.kids.take k)).length) (ptT (t.kids[k]'hlt)) := fun j u hj => by
          have h1 := HSub.out (1 + (ptL (t.kids.take k)).length + j) u
          rw [show i + (1 + (ptL (t.kids.take k)).length + j) = i + 1 + (ptL (t.kids.take k)).length + j from by omega] at h1
          refine h1 ?_
          rw [ptT_eq, show 1 + (ptL (t.kids.take k)).length + j = ((ptL (t.kids.take k)).length + j) + 1 from by omega, List.getElem?_cons_succ]
          obtain ⟨r, hr⟩ := ptL_take_pre (ks := t.kids) (k + 1)
          rw [← hr, hT, List.getElem?_append_left (by rw [List.length_append]; have := (List.getElem?_eq_some_iff.1 hj).1; omega), List.getElem?_append_right (by omega), Nat.add_sub_cancel_left]
          exact hj
        have hlu : (ptL (t.kids.take (k + 1))).length = (ptL (t.kids.take k)).length + cntT (t.kids[k]'hlt) := by rw [hT, List.length_append, pt_cnt]
        have HL := Lib.hid hlu
        have HC := Lib.hid (fun ob => HI.out _ (List.getElem_mem hlt) (i + 1 + (ptL (t.kids.take k)).length) (wr.alloc ob) A' ca' hsub (hkv.kept (Kept.of_below ((Below.refl _ _).alloc (Nat.le_refl _) ob))) (HS.out.trans (hsw.trans (Sav.of_below ((Below.refl _ _).alloc (Nat.le_refl _) ob)))) (hJ _ wr _ ((((Below.refl _ wr).alloc (Nat.le_refl _) ob)).mono (by omega)) hjw))
        generalize t.kids[k]'hlt = u at *
        obtain ⟨q0, q1, q2, q3, q4, q5, q6, q7⟩ := h8
        clear hkv hu hT hsub hlu
        gi_wp2
        refine ⟨trivial, ?_⟩
        refine (callsIn_wide.2 (HC.out _)).mono ?_
        rintro e w2 ⟨hs2, ⟨rfl, hj2⟩ | ⟨rfl, hx2⟩⟩
        · have hs3 : Sav C W w2 := hsw.trans ((Sav.of_below ((Below.refl _ wr).alloc (Nat.le_refl _) _)).trans hs2)
          clear hs2
          gi_wp2
          go_roundw
          case rel => exact ⟨k + 1, by omega, by go_num, hs3, by rw [HL.out, ← Nat.add_assoc]; exact hj2⟩
          case measure => simp [intOf]; omega
        · have hs3 : Sav C W w2 := hsw.trans ((Sav.of_below ((Below.refl _ wr).alloc (Nat.le_refl _) _)).trans hs2)
          gi_wp2
          go_ret
          exact ⟨hs3, .inr ⟨rfl, hx2⟩⟩
      · have hk2 : k = t.kids.length := by omega
        subst hk2
        rw [List.take_length] at hjw
        have hc : i + cntT t = i + 1 + (ptL t.kids).length := by rw [← pt_cnt, ptT_eq, List.length_cons]; omega
        gi_wp2
        go_ret
        exact ⟨hsw, .inl ⟨rfl, by rw [hc]; exact hjw⟩⟩
  · rw [HV.out] at hsB
    gi_wp2
    go_ret
    exact ⟨(Sav.of_below hbV).trans hsB, .inr ⟨rfl, hXB⟩⟩
theorem desc_any {l : Nat} {C : Nat → Prop} {J : Nat → World → Prop} {Jx : World → Prop} {xs : List Tr} {W0 : World} (hC : ∀ k, C k → k < W0.heap.size)
    (hJ : ∀ i A B, Below W0.heap.size A B → J i A → J i B) (hJx : ∀ A B, Below W0.heap.size A B → Jx A → Jx B)
    (hY : ∀ (m i : Nat) (x : Tr) (args : Array Value) (A : World), xs[i]? = some x → encT x args → Sav C W0 A → J i A →
      YieldAt Fence.wide m Tryd.prog l args A fun e B => Sav C A B ∧ (e = .returned (.bool true) ∧ J (i + 1) B ∨ e = .returned (.bool false) ∧ Jx B)) :
    ∀ {t : Tr}, Wid t → cntT t ≤ 1000000 → DescC l C J Jx xs W0 t := by
  intro t hW
  induction hW with
  | @mk k n c r d s w ks hl hk ih =>
    intro hc
    have hlen := cnt_kids (.mk k n c r d s w ks)
    exact desc_level hC hJ hJx hY _ (by omega) fun u hu => ih u hu (Nat.le_trans (cnt_mem (t := .mk k n c r d s w ks) hu) hc)
end Go.Proofs.YteflmfifhmlpiaaDoor
namespace Go.Proofs.YteflmfifhmlpiaaDoor
open Go.RowKit Go.Shelf

attribute [local go_sem] Oper.semAt_some

def V8L (t : Tr) (A : Option Addr) (ca : Nat) : Array Value := #[.int .i64 t.kind, .int .i64 t.num, .int .i64 t.c1, .int .i64 t.r1, .int .i64 t.c2, .int .i64 t.r2, .string ⟨t.word.toArray⟩, .slice A t.kids.length ca]
def CT (w : World) (B : Nat) (t : Tr) (A : Option Addr) (ca : Nat) : Prop := C8 w B (.int .i64 t.kind) (.int .i64 t.num) (.int .i64 t.c1) (.int .i64 t.r1) (.int .i64 t.c2) (.int .i64 t.r2) (.string ⟨t.word.toArray⟩) (.slice A t.kids.length ca)
theorem CT.world {w w' : World} {B : Nat} {t : Tr} {A : Option Addr} {ca : Nat} (h : CT w B t A ca) (hb : w'.heap[B]? = w.heap[B]?) : CT w' B t A ca := by
  obtain ⟨h0, h1, h2, h3, h4, h5, h6, h7⟩ := h
  exact c8_lift (fun j v hv => by rw [World.cell?_of_block (w := w) (a := ⟨B, j, none⟩) hb]; exact hv) h0 h1 h2 h3 h4 h5 h6 h7
theorem CT.lt {w : World} {B : Nat} {t : Tr} {A : Option Addr} {ca : Nat} (h : CT w B t A ca) : B < w.heap.size := Lib.lt_of_cell h.1
theorem CT.below {w w' : World} {B : Nat} {t : Tr} {A : Option Addr} {ca : Nat} (h : CT w B t A ca) (hb : Below w.heap.size w w') : CT w' B t A ca := h.world (hb.block B h.lt)
def pts (t : Tr) : List Tr := if rightP t = true then ptT t else []
set_option maxHeartbeats 2000000 in
set_option maxRecDepth 100000 in
theorem pparts_any (t : Tr) (w : World) (A : Option Addr) (ca : Nat) :
    Calls Tryd.prog 35 #[tv t A ca] w fun e w' => e = .returned (.func (.func 54) #[] #[.pointer (some ⟨w.heap.size, 0, none⟩)]) ∧ w' = w.alloc (.cells (V8L t A ca) 29) := by
  unfold tv V8L
  go_enter Tryd.func35, Tryd.ntmps35
  go_wp2_with fail
  go_ret
  exact ⟨rfl, rfl⟩
set_option maxHeartbeats 2000000 in
set_option maxRecDepth 100000 in
theorem pranges_any (t : Tr) (w : World) (A : Option Addr) (ca : Nat) :
    Calls Tryd.prog 28 #[tv t A ca] w fun e w' => e = .returned (.func (.func 48) #[] #[.pointer (some ⟨w.heap.size, 0, none⟩)]) ∧ w' = w.alloc (.cells (V8L t A ca) 29) := by
  unfold tv V8L
  go_enter Tryd.func28, Tryd.ntmps28
  go_wp2_with fail
  go_ret
  exact ⟨rfl, rfl⟩
set_option maxHeartbeats 4000000 in
set_option maxRecDepth 100000 in
theorem parts_yields {t : Tr} (hW : Wid t) (hc : cntT t ≤ 1000000) {w : World} {Bt : Nat} {A : Option Addr} {ca : Nat} {P : Nat → Prop} (hB : CT w Bt t A ca) (hA : KV w P t A) {B : Nat} (hSB : B ≤ w.heap.size) (hSt : Strs B B w) :
    Yields Tryd.prog 54 #[.pointer (some ⟨Bt, 0, none⟩)] (pts t) encT (fun k => k = Bt ∨ P k) w := by
  intro l C J Jx W hb hC hJ hJx hY h0
  show Calls Tryd.prog 54 #[.func (.yield l) #[] #[], .pointer (some ⟨Bt, 0, none⟩)] W _
  have hBW := hB.below hb
  have hAW : KV W P t A := hA.kept (Kept.of_below hb)
  have HR := Lib.hid (sright_any t hW W P A ca hAW B (Nat.le_trans hSB hb.size) (hSt.later hSB hb))
  have HB := Lib.hid hBW
  have HP : Hid (rightP t = true → pts t = ptT t) := Lib.hid fun h => if_pos h
  have HP0 : Hid (rightP t = false → pts t = []) := Lib.hid fun h => if_neg (by rw [h]; decide)
  have HD : Hid (rightP t = true → ∀ w1, Below W.heap.size W w1 → ∀ i, i = 0 → Calls Tryd.prog 55 #[tv t A ca, .func (.yield l) #[] #[]] w1 fun e B =>
      Sav C W B ∧ (e = .returned (.bool true) ∧ J (pts t).length B ∨ e = .returned (.bool false) ∧ Jx B)) := Lib.hid fun hr w1 b1 i hi => by
    have hk1 : KV w1 (fun b => ¬ C b) t A := (hAW.kept (Kept.of_below b1)).imp fun k hk hCk => (hC k hCk).2 (.inr hk)
    have hY2 := hY
    rw [HP.out hr] at hY2 ⊢
    refine (desc_any (fun k hk => (hC k hk).1) hJ hJx hY2 hW hc 0 w1 A ca (fun j u hj => by rw [Nat.zero_add]; exact hj) hk1 (Sav.of_below b1) (hJ 0 W w1 b1 h0)).mono ?_
    rintro e B ⟨h1, h2⟩
    refine ⟨(Sav.of_below b1).trans h1, ?_⟩
    rw [pt_cnt]
    rwa [Nat.zero_add] at h2
  have HJ : Hid (rightP t = false → ∀ w1, Below W.heap.size W w1 → J (pts t).length w1) := Lib.hid fun hr w1 b1 => by rw [HP0.out hr]; exact hJ 0 W w1 b1 h0
  obtain ⟨v0, v1, v2, v3, v4, v5, v6, v7⟩ := hBW
  have zB := hB.lt
  clear hY hJ hJx hC h0 hB hA hAW hSt HP HP0
  unfold tv at *
  cases hr : rightP t
  all_goals
    rw [hr] at HR
    refine (callsIn_wide (n := 9)).1 (callsIn_of_wp Tryd.func54 rfl trivial ?_ rfl)
    simp only [Tryd.ntmps54, List.size_toArray, List.length_cons, List.length_nil, Nat.reduceAdd, Nat.reduceSub, Array.replicate_succ, Array.replicate_zero, List.push_toArray, List.append_toArray, List.nil_append, List.cons_append]
    gi_wp2
    refine ⟨trivial, ?_⟩
    refine (callsIn_wide.2 HR.out).mono ?_
    rintro e w1 ⟨rfl, b1⟩
  · have HF := Lib.hid (HJ.out hr w1 b1)
    clear v0 v1 v2 v3 v4 v5 v6 v7
    gi_wp2
    go_end0
    exact ⟨⟨_, rfl⟩, Sav.of_below b1, .inl HF.out⟩
  · have HF := Lib.hid (HD.out hr w1 b1 0 rfl)
    obtain ⟨q0, q1, q2, q3, q4, q5, q6, q7⟩ := HB.out.below b1
    clear v0 v1 v2 v3 v4 v5 v6 v7
    gi_wp2
    refine ⟨trivial, ?_⟩
    refine (callsIn_wide.2 HF.out).mono ?_
    rintro e w2 ⟨h2, ⟨rfl, hj2⟩ | ⟨rfl, hx2⟩⟩
    · gi_wp2
      go_end0
      exact ⟨⟨_, rfl⟩, h2, .inl hj2⟩
    · gi_wp2
      go_end0
      exact ⟨⟨_, rfl⟩, h2, .inr hx2⟩
end Go.Proofs.YteflmfifhmlpiaaDoor
namespace Go.Proofs.YteflmfifhmlpiaaDoor
open Go.RowKit Go.Shelf

attribute [local go_sem] Oper.semAt_some

def rgs (t : Tr) : List Tr := (pts t).filter rdr
def encR (u : Tr) (args : Array Value) : Prop := args = #[.agg #[.int .i64 u.c1, .int .i64 u.r1, .int .i64 u.c2, .int .i64 u.r2]]
def nrd (xs : List Tr) (i : Nat) : Nat := ((xs.take i).filter rdr).length
theorem nrd_no {xs : List Tr} {i : Nat} {u : Tr} (h : xs[i]? = some u) (hr : rdr u = false) : nrd xs (i + 1) = nrd xs i := by
  unfold nrd; rw [List.take_add_one, h, List.filter_append]; simp [hr]
theorem nrd_yes {xs : List Tr} {i : Nat} {u : Tr} (h : xs[i]? = some u) (hr : rdr u = true) : nrd xs (i + 1) = nrd xs i + 1 := by
  unfold nrd; rw [List.take_add_one, h, List.filter_append]; simp [hr]
theorem nrd_at {xs : List Tr} {i : Nat} {u : Tr} (h : xs[i]? = some u) (hr : rdr u = true) : (xs.filter rdr)[nrd xs i]? = some u := by
  unfold nrd
  have hs : xs = xs.take i ++ (u :: xs.drop (i + 1)) := by
    have hlt := (List.getElem?_eq_some_iff.1 h).1
    have hd := List.drop_eq_getElem_cons hlt
    have hg := (List.getElem?_eq_some_iff.1 h).2
    rw [hg] at hd
    rw [← hd, List.take_append_drop]
  have key : ∀ (a b : List Tr), ((a ++ u :: b).filter rdr)[(a.filter rdr).length]? = some u := by
    intro a b
    rw [List.filter_append, List.getElem?_append_right (Nat.le_refl _), Nat.sub_self, List.filter_cons, if_pos hr]
    rfl
  conv => lhs; lhs; rw [hs]
  exact key _ _
theorem nrd_len (xs : List Tr) : nrd xs xs.length = (xs.filter rdr).length := by unfold nrd; rw [List.take_length]
set_option maxHeartbeats 8000000 in
set_option maxRecDepth 100000 in
theorem ranges_yields {t : Tr} (hW : Wid t) (hc : cntT t ≤ 1000000) {w : World} {Bt : Nat} {A : Option Addr} {ca : Nat} {P : Nat → Prop} (hB : CT w Bt t A ca) (hA : KV w P t A) (hP : ∀ k, P k → k < w.heap.size) {B : Nat} (hSB : B ≤ w.heap.size) (hSt : Strs B B w) :
    Yields Tryd.prog 48 #[.pointer (some ⟨Bt, 0, none⟩)] (rgs t) encR (fun k => k = Bt ∨ P k) w := by
  intro l C J Jx W hb hC hJ hJx hY h0
  show Calls Tryd.prog 48 #[.func (.yield l) #[] #[], .pointer (some ⟨Bt, 0, none⟩)] W _
  have hBW := hB.below hb
  have hzB : Bt < W.heap.size := hBW.lt
  obtain ⟨v0, v1, v2, v3, v4, v5, v6, v7⟩ := hBW
  have HPa := Lib.hid (fun w => pparts_any t w A ca)
  unfold tv at HPa
  refine (callsIn_wide (n := 9)).1 (callsIn_of_wp_marks Tryd.func48 rfl trivial ?_ rfl)
  simp only [Tryd.ntmps48, List.size_toArray, List.length_cons, List.length_nil, Nat.reduceAdd, Nat.reduceSub, Array.replicate_succ, Array.replicate_zero, List.push_toArray, List.append_toArray, List.nil_append, List.cons_append]
  gi_wp2
  refine ⟨trivial, ?_⟩
  refine (callsIn_wide.2 (HPa.out _)).mono ?_
  rintro e w1 ⟨rfl, rfl⟩
  clear v0 v1 v2 v3 v4 v5 v6 v7
  gi_wp2
  obtain ⟨W1, hW1⟩ : ∃ W1, (W.alloc (.cells #[.func (.yield l) #[] #[]] 72)).alloc (.cells (V8L t A ca) 29) = W1 := ⟨_, rfl⟩
  have hbW : Below W.heap.size W W1 := by rw [← hW1]; exact ((Below.refl _ _).alloc (Nat.le_refl _) _).alloc (by simp) _
  have hz1 : W1.heap.size = W.heap.size + 2 := by rw [← hW1]; simp
  have hCT : CT W1 (W.heap.size + 1) t A ca := by
    rw [← hW1]
    unfold V8L
    refine ⟨?_, ?_, ?_, ?_, ?_, ?_, ?_, ?_⟩ <;> simp [go_sem]
  have hyb : W1.cell? ⟨W.heap.size, 0, none⟩ = some (.func (.yield l) #[] #[]) := by rw [← hW1]; simp [go_sem]
  rw [hW1]
  clear hW1
  have hA1 : KV W1 P t A := (hA.kept (Kept.of_below hb)).kept (Kept.of_below hbW)
  have hbw1 : Below w.heap.size w W1 := hb.trans (hbW.mono hb.size)
  have hsw := hb.size
  refine wp_range (gf := 54) (lb := #[.pointer (some ⟨W.heap.size + 1, 0, none⟩)]) rfl (enters_of Tryd.func54 (by kernel_rfl) rfl)
    (parts_yields hW hc hCT hA1 (Nat.le_trans hSB hbw1.size) (hSt.later hSB hbw1)) (Below.refl _ _) (fun x args h => by obtain ⟨A, ca, rfl⟩ := h; rfl)
    C (fun k hk => ⟨by have := (hC k hk).1; omega, by rintro (rfl | h); have := (hC _ hk).1; omega; exact (hC k hk).2 (.inr h)⟩) (by rintro k (rfl | h); omega; have := hP k h; omega)
    (fun i A => J (nrd (pts t) i) A ∧ A.cell? ⟨W.heap.size, 0, none⟩ = some (.func (.yield l) #[] #[])) (fun c A => c = .ret ∧ Jx A)
    (fun i A B hab ⟨h1, h2⟩ => ⟨hJ _ A B (hab.mono (by omega)) h1, (hab.cell (p := ⟨W.heap.size, 0, none⟩) (by show W.heap.size < _; omega)).trans h2⟩)
    (fun c A B hab ⟨h1, h2⟩ => ⟨h1, hJx A B (hab.mono (by omega)) h2⟩)
    ⟨by rw [show nrd (pts t) 0 = 0 from rfl]; exact hJ 0 W W1 hbW h0, hyb⟩
    (fun u a' V => ∃ Bx A' ca', W1.heap.size ≤ Bx ∧ CT V Bx u A' ca' ∧ a' = { tmps := #[.func (.yield l) #[] #[], .pointer (some ⟨Bt, 0, none⟩), .pointer (some ⟨W.heap.size, 0, none⟩), .pointer (some ⟨Bx, 0, none⟩), .agg #[.int .i64 t.kind, .int .i64 t.num, .int .i64 t.c1, .int .i64 t.r1, .int .i64 t.c2, .int .i64 t.r2, .string ⟨t.word.toArray⟩, .slice A t.kids.length ca], .func (.func 54) #[] #[.pointer (some ⟨W.heap.size + 1, 0, none⟩)], .agg #[.int .i64 u.kind, .int .i64 u.num, .int .i64 u.c1, .int .i64 u.r1, .int .i64 u.c2, .int .i64 u.r2, .string ⟨u.word.toArray⟩, .slice A' u.kids.length ca'], undef, undef, undef, undef, undef, undef, undef, undef, undef], defers := [] })
    (fun x a' V l' r o hl ⟨Bx, A', ca', h1, h2, h3⟩ => ⟨Bx, A', ca', h1, h2.world (putObj_other o (by rintro rfl; have := h2.1; simp [World.cell?, hl] at this)), h3⟩)
    ?assign ?body ?done ?stop
  case assign =>
    rintro l' i x args V K hx ⟨A', ca', rfl⟩ hz hK
    unfold tv
    gi_wp2
    exact hK _ _ ((Below.refl _ _).alloc (Nat.le_refl _) _) ⟨V.heap.size, A', ca', hz, by refine ⟨?_, ?_, ?_, ?_, ?_, ?_, ?_, ?_⟩ <;> simp [go_sem], rfl⟩
  case body =>
    rintro l' i x a' V hx hsV ⟨hjV, hyV⟩ ⟨Bx, A', ca', hBx, hct, rfl⟩
    have HQ := Lib.hid (fun w => preader_any x w A' ca')
    unfold tv at HQ
    have HCT := Lib.hid hct
    have hzx := hct.lt
    obtain ⟨v0, v1, v2, v3, v4, v5, v6, v7⟩ := hct
    gi_wp2
    refine ⟨trivial, ?_⟩
    refine (CallsIn.inRound l' (callsIn_wide.2 (HQ.out _))).mono ?_
    rintro e V2 ⟨rfl, b2⟩
    have hsW : Sav C W V := (Sav.of_below hbW).trans hsV
    have hzV := hsV.size
    have y2 : V2.cell? ⟨W.heap.size, 0, none⟩ = some (.func (.yield l) #[] #[]) := keep_cell b2 hyV
    obtain ⟨q0, q1, q2, q3, q4, q5, q6, q7⟩ := HCT.out.below b2
    have hj2 := hJ _ V V2 (b2.mono (by omega)) hjV
    have HS2 := Lib.hid (Sav.of_below (C := C) b2)
    clear v0 v1 v2 v3 v4 v5 v6 v7 HCT HQ
    cases hr : rdr x with
    | false =>
      have HN := Lib.hid (nrd_no hx hr)
      gi_wp2
      refine ⟨fun _ h => (by cases h), ?_⟩
      gi_wp2
      exact ⟨HS2.out, by show J (nrd (pts t) (i + 1)) V2; rw [HN.out]; exact hj2, y2⟩
    | true =>
      have HN := Lib.hid (nrd_yes hx hr)
      obtain ⟨fn, tmps, assign, bd, hy, hR⟩ := hY 8 (nrd (pts t) i) x _ V2 (nrd_at hx hr) rfl (hsW.trans HS2.out) hj2
      gi_wp2
      refine RoundIn.mono hR ?_
      rintro e V3 ⟨hs3, ⟨rfl, hj3⟩ | ⟨rfl, hx3⟩⟩
      · have y3 : V3.cell? ⟨W.heap.size, 0, none⟩ = some (.func (.yield l) #[] #[]) := hs3.cell (fun h => Nat.lt_irrefl _ (hC _ h).1) y2
        gi_wp2
        exact ⟨HS2.out.trans hs3, by show J (nrd (pts t) (i + 1)) V3; rw [HN.out]; exact hj3, y3⟩
      · gi_wp2
        exact ⟨HS2.out.trans hs3, rfl, hx3⟩
  case done =>
    rintro D V hD hsV ⟨hj, _⟩ hK
    gi_wp2
    refine ⟨by simp, .inl ⟨_, _, rfl, run_takeDeferred hK, ?_⟩⟩
    refine ⟨_, results_none rfl _ _ _, ⟨_, rfl⟩, ((Sav.of_below hbW).trans hsV).putObj (.inr (by omega)) _, .inl (hJ _ V _ (below_putObj (Below.refl _ _) (by omega) _) (by rw [nrd_len] at hj; exact hj))⟩
  case stop =>
    rintro D c V hD hsV ⟨rfl, hx⟩ hK
    gi_wp2
    refine ⟨by simp, .inl ⟨_, _, rfl, run_takeDeferred hK, ?_⟩⟩
    refine ⟨_, results_none rfl _ _ _, ⟨_, rfl⟩, ((Sav.of_below hbW).trans hsV).putObj (.inr (by omega)) _, .inr (hJx V _ (below_putObj (Below.refl _ _) (by omega) _) hx)⟩
end Go.Proofs.YteflmfifhmlpiaaDoor
namespace Go.Proofs.YteflmfifhmlpiaaDoor
open Go.RowKit

theorem grown_of_below {w w' : World} (h : Below w.heap.size w w') (row : Option Nat) : w.grownBy w' row := ⟨h.os, h.tape, h.output, h.size, fun i hi _ => h.block i hi⟩
theorem own_below {w w' : World} {base : Nat} {e : TypeId} {size : Nat} {v : Value} {n : Nat} {xs : List Value} (h : w.ownsRow base e size v n xs) (hb : Below w.heap.size w w') : w'.ownsRow base e size v n xs :=
  h.kept (grown_of_below hb none) (by cases v.ownBlock <;> simp)
def cells2 (l : List (Int × Int)) : List Value := l.flatMap fun p => [.int .i64 p.1, .int .i64 p.2]
theorem cells2_len (l : List (Int × Int)) : (cells2 l).length = l.length * 2 := by
  unfold cells2
  induction l with
  | nil => rfl
  | cons a t ih => rw [List.flatMap_cons, List.length_append, ih]; simp; omega
theorem cells2_snoc (l : List (Int × Int)) (x y : Int) : cells2 (l ++ [(x, y)]) = cells2 l ++ [.int .i64 x, .int .i64 y] := by
  unfold cells2; rw [List.flatMap_append]; rfl
def cellsTo (a b c d : Int) (i : Nat) : List (Int × Int) := ((List.range i).filter fun (j : Nat) => hasB a b c d (atC (j : Int)) (atR (j : Int))).map fun (j : Nat) => (atC (j : Int), atR (j : Int))
theorem cellsTo_zero (a b c d : Int) : cellsTo a b c d 0 = [] := rfl
theorem cellsTo_yes {a b c d : Int} {i : Nat} (h : hasB a b c d (atC i) (atR i) = true) : cellsTo a b c d (i + 1) = cellsTo a b c d i ++ [(atC i, atR i)] := by
  unfold cellsTo; rw [List.range_succ, List.filter_append, List.map_append]; simp [h]
theorem cellsTo_no {a b c d : Int} {i : Nat} (h : hasB a b c d (atC i) (atR i) = false) : cellsTo a b c d (i + 1) = cellsTo a b c d i := by
  unfold cellsTo; rw [List.range_succ, List.filter_append, List.map_append]; simp [h]
theorem cellsTo_le (a b c d : Int) (i : Nat) : (cellsTo a b c d i).length ≤ i := by
  unfold cellsTo; rw [List.length_map]; exact Nat.le_trans (List.length_filter_le _ _) (by simp)

theorem place_info : (Tryd.prog.info? 24).map (fun i => (i.zero, i.size, i.bytes)) = some (some (.agg #[.int .i64 0, .int .i64 0]), 2, 16) := by kernel_rfl

def leftG (v : Value) : Nat := 1024 - (intOf v).toNat
end Go.Proofs.YteflmfifhmlpiaaDoor
namespace Go.Proofs.YteflmfifhmlpiaaDoor
open Go.RowKit

def At2 (w : World) (g : Nat) (l : List (Int × Int)) : Prop := ∀ (i : Nat) (x y : Int), l[i]? = some (x, y) → w.cell? ⟨g, i * 2, none⟩ = some (.int .i64 x) ∧ w.cell? ⟨g, i * 2 + 1, none⟩ = some (.int .i64 y)
theorem cells2_at : ∀ (l : List (Int × Int)) (i : Nat) (x y : Int), l[i]? = some (x, y) → (cells2 l)[i * 2]? = some (.int .i64 x) ∧ (cells2 l)[i * 2 + 1]? = some (.int .i64 y)
  | [], i, x, y, h => by simp at h
  | p :: t, 0, x, y, h => by
    simp at h; subst h
    exact ⟨rfl, rfl⟩
  | p :: t, i + 1, x, y, h => by
    have := cells2_at t i x y (by simpa using h)
    have e1 : (i + 1) * 2 = i * 2 + 2 := by omega
    have e : cells2 (p :: t) = .int .i64 p.1 :: .int .i64 p.2 :: cells2 t := rfl
    rw [e, e1, List.getElem?_cons_succ, List.getElem?_cons_succ, List.getElem?_cons_succ, List.getElem?_cons_succ]
    exact this
theorem at2_of_own {w : World} {base g cap : Nat} {l : List (Int × Int)} (h : w.ownsRow base 24 2 (.slice (some ⟨g, 0, none⟩) l.length cap) l.length (cells2 l)) : At2 w g l := by
  intro i x y hi
  have hlt : i < l.length := (List.getElem?_eq_some_iff.1 hi).1
  obtain ⟨h1, h2⟩ := cells2_at l i x y hi
  exact ⟨(h.cellAt (i * 2) (by omega)).trans h1, (h.cellAt (i * 2 + 1) (by omega)).trans h2⟩

theorem placeGuard : Tryd.prog.eqGuardType Tryd.prog.depth 24 = false := by kernel_rfl
theorem placeStood : Tryd.prog.stoodInHeld 24 = false := by kernel_rfl
theorem placeStruct : Tryd.prog.underlying 24 = some (.struct (Tryd.prog.fieldsOf 24)) := by kernel_rfl
theorem guard_place (op : BinOp) (X Y : Operand) (xs ys : Array Value) (W : World) : (eqGuard op 24 X Y (.agg xs) (.agg ys)).run Tryd.prog W = .ok () W := run_eqGuard_agg W op 24 X Y xs ys placeGuard
theorem neq_place (x y p q : Int) (W : World) : (binOp .neq 24 (.agg #[.int .i64 x, .int .i64 y]) (.agg #[.int .i64 p, .int .i64 q])).run Tryd.prog W = .ok (.bool (!(x == p && y == q))) W := by
  rw [run_neq_struct, run_equalIn_agg W 9999 24 _ _ placeStruct placeStood]
  by_cases h1 : x = p <;> by_cases h2 : y = q <;> simp [go_sem, h1, h2]
def leftH (n : Nat) (v : Value) : Nat := n - (intOf v).toNat
set_option maxHeartbeats 1000000 in
theorem same_core (l m : List (Int × Int)) (g h ca cb : Nat) (w : World) (hl : l.length ≤ maxLen) (hm : m.length ≤ maxLen) (ha : At2 w g l) (hb : At2 w h m) :
    Calls Tryd.prog 10 #[.slice (some ⟨g, 0, none⟩) l.length ca, .slice (some ⟨h, 0, none⟩) m.length cb] w fun e w' => e = .returned (.bool (decide (l = m))) ∧ ∃ n, w' = w.drewN n := by
  have HA := Lib.hid ha
  have HB := Lib.hid hb
  unfold maxLen at hl hm
  clear ha hb
  by_cases hne : l.length = m.length
  · have d0 : ((l.length : Int) != (m.length : Int)) = false := by simp [hne]
    have HN := Lib.hid hne
    clear hne
    go_enter Tryd.func10, Tryd.ntmps10
    go_wp2_with fail
    go_loopw [5] (fun v wr => ∃ i : Nat, i ≤ l.length ∧ v = .int .i64 i ∧ Hid (l.take i = m.take i) ∧ ∃ n, wr = w.drewN n) (fun v _ => leftH l.length v)
    case atStart => exact ⟨0, Nat.zero_le _, rfl, Lib.hid (by simp), 0, rfl⟩
    case round =>
      obtain ⟨i, hi, rfl, HU, nd, rfl⟩ := hrel
      by_cases hlt : i < l.length
      · obtain ⟨x, y, hxy⟩ : ∃ x y, l[i]? = some (x, y) := ⟨_, _, List.getElem?_eq_getElem hlt⟩
        have hlt2 : i < m.length := by have := HN.out; omega
        obtain ⟨p, q, hpq⟩ : ∃ p q, m[i]? = some (p, q) := ⟨_, _, List.getElem?_eq_getElem hlt2⟩
        obtain ⟨a0, a1⟩ := HA.out i x y hxy
        obtain ⟨b0, b1⟩ := HB.out i p q hpq
        have Hxy := Lib.hid hxy
        have Hpq := Lib.hid hpq
        clear hxy hpq
        have hG := fun X Y W => guard_place .neq X Y #[.int .i64 x, .int .i64 y] #[.int .i64 p, .int .i64 q] W
        have hE := neq_place x y p q
        cases he : (!(x == p && y == q)) with
        | true =>
          rw [he] at hE
          have HF := Lib.hid (show decide (l = m) = false from decide_eq_false (by
            rintro rfl
            rw [Hxy.out] at Hpq
            have := Option.some.inj Hpq.out
            obtain ⟨rfl, rfl⟩ := Prod.mk.inj this
            simp at he))
          clear he
          go_wp2_with fail
          go_quiet (fail)
          go_wp2_with fail
          go_ret
          exact ⟨ret_bool HF.out.symm, nd + _, by first | exact (World.drewN_drewN _ _ _) | rfl⟩
        | false =>
          rw [he] at hE
          have HS : Hid (l.take (i + 1) = m.take (i + 1)) := Lib.hid (by
            have h2 : x = p ∧ y = q := by simpa using he
            obtain ⟨rfl, rfl⟩ := h2
            rw [List.take_add_one, List.take_add_one, HU.out, Hxy.out, Hpq.out])
          clear he
          go_wp2_with fail
          go_quiet (fail)
          go_wp2_with fail
          go_roundw
          case rel => exact ⟨i + 1, by omega, by go_num, HS, nd + nq, by first | exact (World.drewN_drewN _ _ _) | rfl⟩
          case measure => simp [leftH, intOf]; omega
      · have HF := Lib.hid (show decide (l = m) = true from decide_eq_true (by
          have h1 := HU.out
          rwa [List.take_of_length_le (by omega), List.take_of_length_le (by have := HN.out; omega)] at h1))
        go_wp2_with fail
        go_ret
        exact ⟨ret_bool HF.out.symm, nd, rfl⟩
  · have d0 : ((l.length : Int) != (m.length : Int)) = true := by simpa using fun h => hne (by omega)
    have HF := Lib.hid (show decide (l = m) = false from decide_eq_false (by rintro rfl; exact hne rfl))
    clear hne
    go_enter Tryd.func10, Tryd.ntmps10
    go_wp2_with fail
    go_ret
    exact ⟨ret_bool HF.out.symm, 0, by simp [World.drewN_zero]⟩
set_option maxHeartbeats 400000 in
theorem same_len (A B : Option Addr) (n k ca cb : Nat) (w : World) (hne : n ≠ k) :
    Calls Tryd.prog 10 #[.slice A n ca, .slice B k cb] w fun e w' => e = .returned (.bool false) ∧ ∃ n, w' = w.drewN n := by
  have d0 : ((n : Int) != (k : Int)) = true := by simpa using fun h => hne (by omega)
  clear hne
  go_enter Tryd.func10, Tryd.ntmps10
  go_wp2_with fail
  go_ret
  exact ⟨rfl, 0, by simp [World.drewN_zero]⟩
set_option maxHeartbeats 400000 in
theorem same_nil (A B : Option Addr) (ca cb : Nat) (w : World) :
    Calls Tryd.prog 10 #[.slice A 0 ca, .slice B 0 cb] w fun e w' => e = .returned (.bool true) ∧ ∃ n, w' = w.drewN n := by
  go_enter Tryd.func10, Tryd.ntmps10
  go_wp2_with fail
  go_loopw [5] (fun v wr => v = .int .i64 0 ∧ wr = w) (fun _ _ => 0)
  case atStart => exact ⟨rfl, rfl⟩
  case round =>
    obtain ⟨rfl, rfl⟩ := hrel
    go_wp2_with fail
    go_ret
    exact ⟨rfl, 0, by simp [World.drewN_zero]⟩

theorem rplaces_any {w : World} {base base' : Nat} {va vb : Value} (l m : List (Int × Int)) (ha : w.ownsRow base 24 2 va l.length (cells2 l)) (hb : w.ownsRow base' 24 2 vb m.length (cells2 m)) :
    Calls Tryd.prog 10 #[va, vb] w fun e w' => e = .returned (.bool (decide (l = m))) ∧ ∃ n, w' = w.drewN n := by
  have ha' := ha
  have hb' := hb
  obtain ⟨_, ha⟩ := ha
  obtain ⟨_, hb⟩ := hb
  rcases ha with ⟨rfl, hl⟩ | ⟨g, cap, cur, rfl, _, _, hlc, hcm, _⟩ <;> rcases hb with ⟨rfl, hm⟩ | ⟨g', cap', cur', rfl, _, _, hlc', hcm', _⟩
  · have e1 := List.eq_nil_of_length_eq_zero hl
    have e2 := List.eq_nil_of_length_eq_zero hm
    subst e1; subst e2
    exact same_nil _ _ _ _ w
  · have e1 := List.eq_nil_of_length_eq_zero hl
    subst e1
    by_cases hm0 : m = []
    · subst hm0
      exact same_nil _ _ _ _ w
    · rw [decide_eq_false (fun h => hm0 h.symm)]
      exact same_len _ _ 0 m.length _ _ w (fun h => hm0 (List.eq_nil_of_length_eq_zero h.symm))
  · have e2 := List.eq_nil_of_length_eq_zero hm
    subst e2
    by_cases hl0 : l = []
    · subst hl0
      exact same_nil _ _ _ _ w
    · rw [decide_eq_false hl0]
      exact same_len _ _ l.length 0 _ _ w (fun h => hl0 (List.eq_nil_of_length_eq_zero h))
  · exact same_core l m g g' cap cap' w (by omega) (by omega) (at2_of_own ha') (at2_of_own hb')
end Go.Proofs.YteflmfifhmlpiaaDoor
