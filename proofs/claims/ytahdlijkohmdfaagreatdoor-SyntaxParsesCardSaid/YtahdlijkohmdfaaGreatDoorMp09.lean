/- Texts joined: SyP, SrB, RefBw, RefFs, PlDs. -/
import Derived.Test.YtahdlijkohmdfaaGreatDoorMp08
import Derived.Shelf.Abstract
import Derived.Test.YtahdlijkohmdfaaGreatDoorMp02
import Derived.Deep.RegionWith
import Derived.Deep.RegionHeld3
set_option linter.all false
set_option linter.unusedVariables false
set_option linter.unusedSimpArgs false
namespace Go.Proofs.YtahdlijkohmdfaaGreatDoor
open Go.Lib

def onlyB (t : Tr) (n : Nat) : Bool := match t with
  | .mk k num c r d s w ks => (k == 0 || num == 0) && ((k == 1 || k == 6 || (c == 0 && r == 0 && d == 0 && s == 0)) && ((k == 4 || k == 5 || w == []) && ks.length == n))
mutual
def mayB : Tr → Bool
  | .mk k n c r d s w ks =>
    if k = 0 then onlyB (.mk k n c r d s w ks) 0 && decide (0 ≤ n)
    else if k = 1 then onlyB (.mk k n c r d s w ks) 0 && (rightB c r && (c == d && r == s))
    else if k = 2 then onlyB (.mk k n c r d s w ks) 0
    else if k = 6 then onlyB (.mk k n c r d s w ks) 0 && (rightB c r && rightB d s && decide (c ≤ d) && decide (r ≤ s))
    else if k = 3 then onlyB (.mk k n c r d s w ks) 1 && allB ks false false
    else if k = 4 then onlyB (.mk k n c r d s w ks) 2 && (allB ks false false && decide (1 ≤ lvl w))
    else if k = 5 then onlyB (.mk k n c r d s w ks) ks.length && (allB ks (w != [73, 70]) (w == [67, 79, 85, 78, 84]) && (if w = [73, 70] then ks.length == 3 else if w = [83, 85, 77] ∨ w = [77, 73, 78] ∨ w = [77, 65, 88] ∨ w = [67, 79, 85, 78, 84] then decide (0 < ks.length) else false))
    else false
def allB : List Tr → Bool → Bool → Bool
  | [], _, _ => true
  | t :: ts, spans, corners => (mayB t && ((spans || t.kind != 6) && (!corners || t.kind == 6 || t.kind == 2))) && allB ts spans corners
end
inductive Fit : Tr → Prop
  | mk {k n c r d s : Int} {w : List UInt8} {ks : List Tr} : n ≤ 9223372036854775807 → (∀ t ∈ ks, Fit t) → Fit (.mk k n c r d s w ks)
theorem all_mem {ks : List Tr} {a b : Bool} (h : allB ks a b = true) : ∀ t ∈ ks, mayB t = true ∧ (a = true ∨ t.kind ≠ 6) ∧ (b = false ∨ t.kind = 6 ∨ t.kind = 2) := by
  induction ks with
  | nil => intro t ht; cases ht
  | cons u r ih =>
    rw [allB] at h
    simp only [Bool.and_eq_true, Bool.or_eq_true, Bool.not_eq_true', bne_iff_ne, beq_iff_eq] at h
    obtain ⟨⟨h1, h2, h3⟩, h4⟩ := h
    intro t ht
    rcases List.mem_cons.1 ht with rfl | ht
    · exact ⟨h1, h2, by rcases h3 with (h3 | h3) | h3; exact .inl h3; exact .inr (.inl h3); exact .inr (.inr h3)⟩
    · exact ih h4 t ht
theorem may_ex {t : Tr} (hf : Fit t) : mayB t = true → (t.kind ≠ 6 → Ex .tree t) ∧ (t.kind = 6 → ∀ c, Ex (.item c) t) ∧ (t.kind = 2 → ∀ c, Ex (.item c) t) := by
  induction hf with
  | @mk k n c r d s w ks hn _ ih =>
    intro h
    rw [mayB] at h
    unfold onlyB at h
    by_cases h0 : k = 0
    · subst h0
      simp at h
      obtain ⟨⟨⟨⟨⟨rfl, rfl⟩, rfl⟩, rfl⟩, rfl, rfl⟩, h⟩ := h
      refine ⟨fun _ => ?_, fun e => by simp [Tr.kind] at e, fun e => by simp [Tr.kind] at e⟩
      obtain ⟨m, rfl⟩ := Int.eq_ofNat_of_zero_le h
      exact ⟨_, _, .num (by omega)⟩
    by_cases h1 : k = 1
    · subst h1
      simp at h
      obtain ⟨⟨rfl, rfl, rfl⟩, h, rfl, rfl⟩ := h
      exact ⟨fun _ => ⟨_, _, .read h⟩, fun e => by simp [Tr.kind] at e, fun e => by simp [Tr.kind] at e⟩
    by_cases h2 : k = 2
    · subst h2
      simp at h
      obtain ⟨rfl, ⟨⟨⟨rfl, rfl⟩, rfl⟩, rfl⟩, rfl, rfl⟩ := h
      refine ⟨fun _ => ⟨_, _, .bad⟩, fun e => by simp [Tr.kind] at e, fun _ c => ?_⟩
      cases c
      · exact ⟨_, _, .itT .bad⟩
      · exact ⟨_, _, .itBad⟩
    by_cases h6 : k = 6
    · subst h6
      simp at h
      obtain ⟨⟨rfl, rfl, rfl⟩, ⟨⟨a, b⟩, e⟩, f⟩ := h
      exact ⟨fun e => by simp [Tr.kind] at e, fun _ c => ⟨_, _, .itSpan a b e f⟩, fun e => by simp [Tr.kind] at e⟩
    by_cases h3 : k = 3
    · subst h3
      simp at h
      obtain ⟨⟨rfl, ⟨⟨⟨rfl, rfl⟩, rfl⟩, rfl⟩, rfl, hk⟩, ha⟩ := h
      obtain ⟨a, rfl⟩ := List.length_eq_one_iff.1 hk
      have A := all_mem ha a (by simp)
      exact ⟨fun _ => Ex.neg ((ih a (by simp) A.1).1 (by simpa using A.2.1)), fun e => by simp [Tr.kind] at e, fun e => by simp [Tr.kind] at e⟩
    by_cases h4 : k = 4
    · subst h4
      simp at h
      obtain ⟨⟨rfl, ⟨⟨⟨rfl, rfl⟩, rfl⟩, rfl⟩, hk⟩, ha, hw⟩ := h
      obtain ⟨a, b, rfl⟩ : ∃ a b, ks = [a, b] := by
        match ks, hk with
        | [a, b], _ => exact ⟨a, b, rfl⟩
      have A := all_mem ha a (by simp)
      have B := all_mem ha b (by simp)
      exact ⟨fun _ => Ex.op hw ((ih a (by simp) A.1).1 (by simpa using A.2.1)) ((ih b (by simp) B.1).1 (by simpa using B.2.1)), fun e => by simp [Tr.kind] at e, fun e => by simp [Tr.kind] at e⟩
    by_cases h5 : k = 5
    · subst h5
      rw [if_neg (by decide), if_neg (by decide), if_neg (by decide), if_neg (by decide), if_neg (by decide), if_neg (by decide), if_pos rfl, Bool.and_eq_true] at h
      obtain ⟨ho, h⟩ := h
      rw [Bool.and_eq_true] at h
      obtain ⟨ha, hif⟩ := h
      simp at ho
      obtain ⟨rfl, ⟨⟨⟨rfl, rfl⟩, rfl⟩, rfl⟩⟩ := ho
      refine ⟨fun _ => ?_, fun e => by simp [Tr.kind] at e, fun e => by simp [Tr.kind] at e⟩
      have M := all_mem ha
      by_cases hw : w = [73, 70]
      · subst hw
        rw [if_pos rfl, beq_iff_eq] at hif
        obtain ⟨a, b, c, rfl⟩ : ∃ a b c, ks = [a, b, c] := by
          match ks, hif with
          | [a, b, c], _ => exact ⟨a, b, c, rfl⟩
        have T : ∀ t ∈ [a, b, c], Ex .tree t := fun t ht => (ih t ht (M t ht).1).1 (by simpa using (M t ht).2.1)
        obtain ⟨_, _, A⟩ := T a (by simp)
        obtain ⟨_, _, B⟩ := T b (by simp)
        obtain ⟨_, _, C⟩ := T c (by simp)
        exact ⟨_, _, .cif A B C⟩
      · rw [if_neg hw] at hif
        split at hif
        · rename_i hc
          have hne : ks ≠ [] := by
            rintro rfl
            simp at hif
          obtain ⟨_, _, I⟩ := ex_its (k := w == [67, 79, 85, 78, 84]) ks hne fun t ht => by
            obtain ⟨m1, _, m3⟩ := M t ht
            obtain ⟨i1, i2, i3⟩ := ih t ht m1
            by_cases e6 : t.kind = 6
            · exact i2 e6 _
            · by_cases e2 : t.kind = 2
              · exact i3 e2 _
              · rcases m3 with m | m | m
                · rw [m]
                  obtain ⟨_, _, X⟩ := i1 e6
                  exact ⟨_, _, .itT X⟩
                · exact absurd m e6
                · exact absurd m e2
          exact ⟨_, _, .call hc I⟩
        · cases hif
    · simp [h0, h1, h2, h3, h4, h5, h6] at h
end Go.Proofs.YtahdlijkohmdfaaGreatDoor
namespace Go.Proofs.YtahdlijkohmdfaaGreatDoor
open Go.RowKit Go.Shelf

structure TestC (F : Nat) (p : Tr → Bool) : Prop where
  enters : ∀ (args : Array Value) (w : World), (callFunc F args).run Tryz.prog w = .ok (.enter F args) w
  runs : ∀ (t : Tr) (A : Option Addr) (cap : Nat) (w : World), Calls Tryz.prog F #[tv t A cap] w fun e w' => e = .returned (.bool (p t)) ∧ Below w.heap.size w w'
set_option maxHeartbeats 1000000 in
set_option maxRecDepth 10000 in
theorem spanC : TestC 94 (fun t => t.kind == 6) := by
  refine ⟨fun args w => enters_of Tryz.func94 (by kernel_rfl) rfl args w, fun t A cap w => ?_⟩
  unfold tv
  go_enter Tryz.func94, Tryz.ntmps94
  go_wp2_with fail
  go_ret
  exact ⟨rfl, (Below.refl _ _).alloc (Nat.le_refl _) _⟩
set_option maxHeartbeats 1000000 in
set_option maxRecDepth 10000 in
theorem uncountedC : TestC 95 (fun t => (t.kind != 6) && (t.kind != 2)) := by
  refine ⟨fun args w => enters_of Tryz.func95 (by kernel_rfl) rfl args w, fun t A cap w => ?_⟩
  unfold tv
  cases h6 : (t.kind != 6) with
  | true =>
    go_enter Tryz.func95, Tryz.ntmps95
    go_wp2_with fail
    go_ret
    exact ⟨rfl, (Below.refl _ _).alloc (Nat.le_refl _) _⟩
  | false =>
    go_enter Tryz.func95, Tryz.ntmps95
    go_wp2_with fail
    go_ret
    exact ⟨rfl, (Below.refl _ _).alloc (Nat.le_refl _) _⟩
theorem any_hit {p : Tr → Bool} {ks : List Tr} {i : Nat} {u : Tr} (h : ks[i]? = some u) (hp : p u = true) : ks.any p = true := List.any_eq_true.2 ⟨u, List.mem_of_getElem? h, hp⟩
theorem any_miss {p : Tr → Bool} {ks : List Tr} (h : ∀ (j : Nat) (u : Tr), j < ks.length → ks[j]? = some u → p u = false) : ks.any p = false := by
  rw [Bool.eq_false_iff]
  intro ha
  obtain ⟨u, hu, hp⟩ := List.any_eq_true.1 ha
  obtain ⟨j, hj⟩ := List.getElem?_of_mem hu
  have := h j u (List.getElem?_eq_some_iff.1 hj).1 hj
  rw [hp] at this; cases this
set_option maxHeartbeats 1000000 in
set_option maxRecDepth 10000 in
theorem pindex_any {F : Nat} {p : Tr → Bool} (hF : TestC F p) (t : Tr) (ht : Wid t) (w : World) (P : Nat → Prop) (A : Option Addr) (ca : Nat) (hA : KV w P t A) :
    Calls Tryz.prog 108 #[.slice A t.kids.length ca, .func (.func F) #[] #[]] w fun e w' => (∃ i : Int, e = .returned (.int .i64 i) ∧ decide (0 ≤ i) = t.kids.any p) ∧ Below w.heap.size w w' := by
  have hlen := ht.len
  unfold maxLen at hlen
  have hE := hF.enters
  have HF := Lib.hid hF.runs
  have HA := Lib.hid hA
  clear hF hA
  go_enter Tryz.func108, Tryz.ntmps108
  go_wp2_with fail
  go_loopw [8] (fun vi wr => ∃ i : Nat, i ≤ t.kids.length ∧ vi = .int .i64 (i : Int) ∧ Hid (∀ (j : Nat) (u : Tr), j < i → t.kids[j]? = some u → p u = false) ∧ Below w.heap.size w wr) (fun vi _ => t.kids.length - (intOf vi).toNat)
  case atStart => exact ⟨0, Nat.zero_le _, rfl, Lib.hid fun j u hj => by omega, Below.refl _ _⟩
  case round =>
    obtain ⟨i, hi, rfl, HN, hbel⟩ := hrel
    by_cases hlt : i < t.kids.length
    · have ha : t.kids[i]? = some (t.kids[i]'hlt) := List.getElem?_eq_getElem hlt
      obtain ⟨g, o, rfl⟩ := HA.out.addr ha
      obtain ⟨hg, A', ca', h8, hkv⟩ := HA.out.kidAt hbel ha
      have HM := Lib.hid ha
      have HC := Lib.hid (HF.out (t.kids[i]'hlt) A' ca' wr)
      generalize t.kids[i]'hlt = x at *
      unfold At8 at h8
      unfold tv at HC
      obtain ⟨q0, q1, q2, q3, q4, q5, q6, q7⟩ := h8
      clear hkv ha
      cases hp : p x with
      | true =>
        rw [hp] at HC
        have HH := Lib.hid (any_hit HM.out hp)
        clear hp
        go_wp2_with fail
        refine HC.out.mono ?_; rintro e w1 ⟨rfl, b1⟩
        have hb1 := hbel.trans (b1.mono hbel.size)
        clear b1 q0 q1 q2 q3 q4 q5 q6 q7
        go_wp2_with fail
        go_ret
        exact ⟨⟨_, rfl, by rw [HH.out]; exact decide_eq_true (by omega)⟩, hb1⟩
      | false =>
        rw [hp] at HC
        have HH := Lib.hid hp
        clear hp
        go_wp2_with fail
        refine HC.out.mono ?_; rintro e w1 ⟨rfl, b1⟩
        have hb1 := hbel.trans (b1.mono hbel.size)
        clear b1 q0 q1 q2 q3 q4 q5 q6 q7
        go_wp2_with fail
        go_roundw
        case rel => exact ⟨i + 1, by omega, by go_num, Lib.hid fun j u hj hu => by
          by_cases hji : j < i
          · exact HN.out j u hji hu
          · obtain rfl : j = i := by omega
            rw [HM.out] at hu; obtain rfl := Option.some.inj hu; exact HH.out, hb1⟩
        case measure => simp [intOf]; omega
    · have hii : i = t.kids.length := by omega
      subst hii
      have HH := Lib.hid (any_miss HN.out)
      go_wp2_with fail
      go_ret
      exact ⟨⟨_, rfl, by rw [HH.out]; rfl⟩, hbel⟩
set_option maxHeartbeats 1000000 in
set_option maxRecDepth 10000 in
theorem pcontains_any {F : Nat} {p : Tr → Bool} (hF : TestC F p) (t : Tr) (ht : Wid t) (w : World) (P : Nat → Prop) (A : Option Addr) (ca : Nat) (hA : KV w P t A) :
    Calls Tryz.prog 93 #[.slice A t.kids.length ca, .func (.func F) #[] #[]] w fun e w' => e = .returned (.bool (t.kids.any p)) ∧ Below w.heap.size w w' := by
  have H := Lib.hid (pindex_any hF t ht w P A ca hA)
  clear hF hA
  go_enter Tryz.func93, Tryz.ntmps93
  go_wp2_with fail
  refine H.out.mono ?_; rintro e w1 ⟨⟨i, rfl, hi⟩, b1⟩
  have HI := Lib.hid hi
  clear hi
  go_wp2_with fail
  go_ret
  exact ⟨ret_bool HI.out, b1⟩
def exprsB (ks : List Tr) (n : Nat) : Bool := (ks.length == n) && !ks.any (fun t => t.kind == 6)
set_option maxHeartbeats 1000000 in
set_option maxRecDepth 10000 in
theorem pexprs_any (n : Nat) (t : Tr) (ht : Wid t) (w : World) (P : Nat → Prop) (A : Option Addr) (ca : Nat) (hA : KV w P t A) :
    Calls Tryz.prog 74 #[.slice A t.kids.length ca, .int .i64 (n : Int)] w fun e w' => e = .returned (.bool (exprsB t.kids n)) ∧ Below w.heap.size w w' := by
  have hlen := ht.len
  unfold maxLen at hlen
  have H := Lib.hid (pcontains_any spanC t ht w P A ca hA)
  unfold exprsB
  clear hA
  cases hl : (t.kids.length == n) with
  | true =>
    have d1 : ((t.kids.length : Int) == (n : Int)) = true := by rw [beq_iff_eq] at hl ⊢; omega
    go_enter Tryz.func74, Tryz.ntmps74
    go_wp2_with fail
    refine H.out.mono ?_; rintro e w1 ⟨rfl, b1⟩
    go_wp2_with fail
    go_ret
    exact ⟨ret_bool (Bool.true_and _).symm, b1⟩
  | false =>
    have d1 : ((t.kids.length : Int) == (n : Int)) = false := by rw [beq_eq_false_iff_ne] at hl ⊢; omega
    go_enter Tryz.func74, Tryz.ntmps74
    go_wp2_with fail
    go_ret
    exact ⟨rfl, Below.refl _ _⟩
def calledB (wd : List UInt8) (ks : List Tr) : Bool :=
  if wd = [73, 70] then exprsB ks 3 else if wd = [83, 85, 77] ∨ wd = [77, 73, 78] ∨ wd = [77, 65, 88] then decide ((0 : Int) < (ks.length : Int)) else if wd = [67, 79, 85, 78, 84] then decide ((0 : Int) < (ks.length : Int)) && !ks.any (fun t => (t.kind != 6) && (t.kind != 2)) else false
set_option maxHeartbeats 1000000 in
set_option maxRecDepth 10000 in
theorem pcalled_any (wd : List UInt8) (t : Tr) (ht : Wid t) (w : World) (P : Nat → Prop) (A : Option Addr) (ca : Nat) (hA : KV w P t A) :
    Calls Tryz.prog 75 #[.string ⟨wd.toArray⟩, .slice A t.kids.length ca] w fun e w' => e = .returned (.bool (calledB wd t.kids)) ∧ Below w.heap.size w w' := by
  have hlen := ht.len
  unfold maxLen at hlen
  have HX := Lib.hid (pexprs_any 3 t ht w P A ca hA)
  have HC := Lib.hid (pcontains_any uncountedC t ht w P A ca hA)
  clear hA
  unfold calledB
  have HD : ∀ b, decide ((0 : Int) < (t.kids.length : Int)) = b → decide ((0 : Int) < (t.kids.length : Int)) = b := fun _ h => h
  generalize hn : t.kids.length = n at *
  have HNN := Lib.hid hn
  clear hn HD
  by_cases hi : wd = [73, 70]
  · subst hi
    rw [if_pos rfl]
    go_enter Tryz.func75, Tryz.ntmps75
    go_wp2_with fail
    refine HX.out.mono ?_; rintro e w1 ⟨rfl, b1⟩
    go_wp2_with fail
    go_ret
    exact ⟨rfl, b1⟩
  · rw [if_neg hi]
    by_cases h3 : wd = [83, 85, 77] ∨ wd = [77, 73, 78] ∨ wd = [77, 65, 88]
    · rw [if_pos h3]
      rcases h3 with rfl | rfl | rfl
      · by_cases hz : 0 < n
        · have d1 : decide ((0 : Int) < (n : Int)) = true := decide_eq_true (by omega)
          have d2 := Lib.hid d1
          go_enter Tryz.func75, Tryz.ntmps75
          go_wp2_with fail
          go_ret
          exact ⟨ret_bool (by rw [d2.out]), Below.refl _ _⟩
        · have d1 : decide ((0 : Int) < (n : Int)) = false := decide_eq_false (by omega)
          have d2 := Lib.hid d1
          go_enter Tryz.func75, Tryz.ntmps75
          go_wp2_with fail
          go_ret
          exact ⟨ret_bool (by rw [d2.out]), Below.refl _ _⟩
      · by_cases hz : 0 < n
        · have d1 : decide ((0 : Int) < (n : Int)) = true := decide_eq_true (by omega)
          have d2 := Lib.hid d1
          go_enter Tryz.func75, Tryz.ntmps75
          go_wp2_with fail
          go_ret
          exact ⟨ret_bool (by rw [d2.out]), Below.refl _ _⟩
        · have d1 : decide ((0 : Int) < (n : Int)) = false := decide_eq_false (by omega)
          have d2 := Lib.hid d1
          go_enter Tryz.func75, Tryz.ntmps75
          go_wp2_with fail
          go_ret
          exact ⟨ret_bool (by rw [d2.out]), Below.refl _ _⟩
      · by_cases hz : 0 < n
        · have d1 : decide ((0 : Int) < (n : Int)) = true := decide_eq_true (by omega)
          have d2 := Lib.hid d1
          go_enter Tryz.func75, Tryz.ntmps75
          go_wp2_with fail
          go_ret
          exact ⟨ret_bool (by rw [d2.out]), Below.refl _ _⟩
        · have d1 : decide ((0 : Int) < (n : Int)) = false := decide_eq_false (by omega)
          have d2 := Lib.hid d1
          go_enter Tryz.func75, Tryz.ntmps75
          go_wp2_with fail
          go_ret
          exact ⟨ret_bool (by rw [d2.out]), Below.refl _ _⟩
    · rw [if_neg h3]
      by_cases hc : wd = [67, 79, 85, 78, 84]
      · subst hc
        rw [if_pos rfl]
        by_cases hz : 0 < n
        · have d1 : decide ((0 : Int) < (n : Int)) = true := decide_eq_true (by omega)
          have d2 := Lib.hid d1
          go_enter Tryz.func75, Tryz.ntmps75
          go_wp2_with fail
          refine HC.out.mono ?_; rintro e w1 ⟨rfl, b1⟩
          go_wp2_with fail
          go_ret
          exact ⟨ret_bool (by rw [d2.out, Bool.true_and]), b1⟩
        · have d1 : decide ((0 : Int) < (n : Int)) = false := decide_eq_false (by omega)
          have d2 := Lib.hid d1
          go_enter Tryz.func75, Tryz.ntmps75
          go_wp2_with fail
          go_ret
          exact ⟨ret_bool (by rw [d2.out, Bool.false_and]), Below.refl _ _⟩
      · rw [if_neg hc]
        have e0 : (wd == [73, 70]) = false := by rw [beq_eq_false_iff_ne]; exact hi
        have e1 : (wd == [83, 85, 77]) = false := by rw [beq_eq_false_iff_ne]; exact fun e => h3 (.inl e)
        have e2 : (wd == [77, 73, 78]) = false := by rw [beq_eq_false_iff_ne]; exact fun e => h3 (.inr (.inl e))
        have e3 : (wd == [77, 65, 88]) = false := by rw [beq_eq_false_iff_ne]; exact fun e => h3 (.inr (.inr e))
        have e4 : (wd == [67, 79, 85, 78, 84]) = false := by rw [beq_eq_false_iff_ne]; exact hc
        clear hi h3 hc
        go_enter Tryz.func75, Tryz.ntmps75
        go_wp2_with fail
        go_ret
        exact ⟨rfl, Below.refl _ _⟩
end Go.Proofs.YtahdlijkohmdfaaGreatDoor
namespace Go.Proofs.YtahdlijkohmdfaaGreatDoor
open Go.RowKit

def wholeB (a b c d : Int) : Bool := rightB a b && rightB c d && (decide (a ≤ c) && decide (b ≤ d))
theorem wholeB_iff (a b c d : Int) : wholeB a b c d = true ↔ (0 ≤ a ∧ a ≤ 15 ∧ 0 ≤ b ∧ b ≤ 63) ∧ (0 ≤ c ∧ c ≤ 15 ∧ 0 ≤ d ∧ d ≤ 63) ∧ a ≤ c ∧ b ≤ d := by
  unfold wholeB rightB; simp [and_assoc]
set_option maxHeartbeats 1000000 in
theorem rwhole_any (a b c d : Int) (w : World) :
    Calls Tryz.prog 47 #[.agg #[.int .i64 a, .int .i64 b, .int .i64 c, .int .i64 d]] w fun e w' => e = .returned (.bool (wholeB a b c d)) ∧ Below w.heap.size w w' := by
  have HF := Lib.hid (rright_any a b)
  have HT := Lib.hid (rright_any c d)
  cases hf : rightB a b with
  | false =>
    have e1 := Lib.hid (show wholeB a b c d = false from by unfold wholeB; rw [hf]; rfl)
    rw [hf] at HF
    clear hf
    go_enter Tryz.func47, Tryz.ntmps47
    go_wp2_with fail
    refine (HF.out _).mono ?_; rintro e w1 ⟨rfl, b1⟩
    have k2 := keep_fresh b1 2 (v := .int .i64 c) rfl
    have k3 := keep_fresh b1 3 (v := .int .i64 d) rfl
    go_wp2_with fail
    refine (HT.out _).mono ?_; rintro e w2 ⟨rfl, b2⟩
    have h1 : Below w.heap.size w w1 := ((Below.refl _ _).alloc (Nat.le_refl _) _).trans (b1.mono (by simp))
    have h2 := h1.trans (b2.mono h1.size)
    clear k2 k3 b1 b2
    go_wp2_with fail
    go_ret
    exact ⟨ret_bool e1.out.symm, h2⟩
  | true =>
    rw [hf] at HF
    cases ht : rightB c d with
    | false =>
      have e1 := Lib.hid (show wholeB a b c d = false from by unfold wholeB; rw [hf, ht]; rfl)
      rw [ht] at HT
      clear hf ht
      go_enter Tryz.func47, Tryz.ntmps47
      go_wp2_with fail
      refine (HF.out _).mono ?_; rintro e w1 ⟨rfl, b1⟩
      have k2 := keep_fresh b1 2 (v := .int .i64 c) rfl
      have k3 := keep_fresh b1 3 (v := .int .i64 d) rfl
      go_wp2_with fail
      refine (HT.out _).mono ?_; rintro e w2 ⟨rfl, b2⟩
      have h1 : Below w.heap.size w w1 := ((Below.refl _ _).alloc (Nat.le_refl _) _).trans (b1.mono (by simp))
      have h2 := h1.trans (b2.mono h1.size)
      clear k2 k3 b1 b2
      go_wp2_with fail
      go_ret
      exact ⟨ret_bool e1.out.symm, h2⟩
    | true =>
      have e1 := Lib.hid (show wholeB a b c d = (decide (a ≤ c) && decide (b ≤ d)) from by unfold wholeB; rw [hf, ht]; rfl)
      rw [ht] at HT
      clear hf ht
      go_enter Tryz.func47, Tryz.ntmps47
      go_wp2_with fail
      refine (HF.out _).mono ?_; rintro e w1 ⟨rfl, b1⟩
      have j0 := keep_fresh b1 0 (v := .int .i64 a) rfl
      have j1 := keep_fresh b1 1 (v := .int .i64 b) rfl
      have j2 := keep_fresh b1 2 (v := .int .i64 c) rfl
      have j3 := keep_fresh b1 3 (v := .int .i64 d) rfl
      go_wp2_with fail
      refine (HT.out _).mono ?_; rintro e w2 ⟨rfl, b2⟩
      have k0 := keep_cell b2 j0
      have k1 := keep_cell b2 j1
      have k2 := keep_cell b2 j2
      have k3 := keep_cell b2 j3
      have h1 : Below w.heap.size w w1 := ((Below.refl _ _).alloc (Nat.le_refl _) _).trans (b1.mono (by simp))
      have h2 := h1.trans (b2.mono h1.size)
      clear j0 j1 j2 j3 b1 b2
      by_cases hac : a ≤ c
      · have d1 : decide (a ≤ c) = true := decide_eq_true hac
        rw [d1, Bool.true_and] at e1
        clear hac
        go_wp2_with fail
        go_ret
        exact ⟨ret_bool e1.out.symm, h2⟩
      · have d1 : decide (a ≤ c) = false := decide_eq_false hac
        rw [d1, Bool.false_and] at e1
        clear hac
        go_wp2_with fail
        go_ret
        exact ⟨ret_bool e1.out.symm, h2⟩
end Go.Proofs.YtahdlijkohmdfaaGreatDoor
namespace Go.Proofs.YtahdlijkohmdfaaGreatDoor
open Go.RowKit

def spB (a b c d : Int) : Bool := rightB a b && rightB c d
def spN (x : Bool) (n : Int) : Int := if x = true then n else 0
set_option maxHeartbeats 1000000 in
theorem rspan_any (a b c d : Int) (w : World) :
    Calls Tryz.prog 106 #[.agg #[.int .i64 a, .int .i64 b], .agg #[.int .i64 c, .int .i64 d]] w fun e w' => e = .returned (.tuple #[.agg #[.int .i64 (spN (spB a b c d) (min a c)), .int .i64 (spN (spB a b c d) (min b d)), .int .i64 (spN (spB a b c d) (max a c)), .int .i64 (spN (spB a b c d) (max b d))], .bool (spB a b c d)]) ∧ Below w.heap.size w w' := by
  have HP := Lib.hid (rright_any a b)
  have HQ := Lib.hid (rright_any c d)
  cases hp : rightB a b <;> cases hq : rightB c d
  all_goals
    rw [hp] at HP
    rw [hq] at HQ
    have e0 : spB a b c d = (rightB a b && rightB c d) := rfl
    rw [hp, hq] at e0
    simp only [Bool.and_self, Bool.and_true, Bool.and_false] at e0
    rw [e0]
    clear hp hq e0
    go_enter Tryz.func106, Tryz.ntmps106
    go_wp2_with fail
    refine (HP.out _).mono ?_; rintro e w1 ⟨rfl, b1⟩
    have k0 := keep_cell b1 (p := ⟨w.heap.size + 1 + 1, 0, none⟩) (v := .int .i64 0) (by simp [go_sem])
    have k1 := keep_cell b1 (p := ⟨w.heap.size + 1 + 1, 1, none⟩) (v := .int .i64 0) (by simp [go_sem])
    have k2 := keep_cell b1 (p := ⟨w.heap.size + 1 + 1, 2, none⟩) (v := .int .i64 0) (by simp [go_sem])
    have k3 := keep_cell b1 (p := ⟨w.heap.size + 1 + 1, 3, none⟩) (v := .int .i64 0) (by simp [go_sem])
    have k4 := keep_cell b1 (p := ⟨w.heap.size, 0, none⟩) (v := .int .i64 a) (by simp [go_sem])
    have k5 := keep_cell b1 (p := ⟨w.heap.size, 1, none⟩) (v := .int .i64 b) (by simp [go_sem])
    have k6 := keep_cell b1 (p := ⟨w.heap.size + 1, 0, none⟩) (v := .int .i64 c) (by simp [go_sem])
    have k7 := keep_cell b1 (p := ⟨w.heap.size + 1, 1, none⟩) (v := .int .i64 d) (by simp [go_sem])
    have f0 := keep_frozen b1 (p := ⟨w.heap.size + 1 + 1, 0, none⟩) (by simp) (by simp [go_sem])
    have f1 := keep_frozen b1 (p := ⟨w.heap.size + 1 + 1, 1, none⟩) (by simp) (by simp [go_sem])
    have f2 := keep_frozen b1 (p := ⟨w.heap.size + 1 + 1, 2, none⟩) (by simp) (by simp [go_sem])
    have f3 := keep_frozen b1 (p := ⟨w.heap.size + 1 + 1, 3, none⟩) (by simp) (by simp [go_sem])
    have z1 : w.heap.size + 1 + 1 < w1.heap.size := by have := b1.size; simp at this; omega
    have h1 : Below w.heap.size w w1 := ((((Below.refl _ _).alloc (Nat.le_refl _) _).alloc (by simp) _).alloc (by simp; omega) _).trans (b1.mono (by simp; omega))
    clear b1
    go_wp2_with fail
    refine (HQ.out _).mono ?_; rintro e w2 ⟨rfl, b2⟩
    have m0 := keep_cell b2 k0
    have m1 := keep_cell b2 k1
    have m2 := keep_cell b2 k2
    have m3 := keep_cell b2 k3
    have m4 := keep_cell b2 k4
    have m5 := keep_cell b2 k5
    have m6 := keep_cell b2 k6
    have m7 := keep_cell b2 k7
    have g0 := keep_frozen b2 z1 f0
    have g1 := keep_frozen b2 z1 f1
    have g2 := keep_frozen b2 z1 f2
    have g3 := keep_frozen b2 z1 f3
    have h2 := h1.trans (b2.mono h1.size)
    clear k0 k1 k2 k3 k4 k5 k6 k7 f0 f1 f2 f3 b2
    go_wp2_with fail
    all_goals first
      | exact bodyPost_ret (v := .tuple #[.agg #[.int .i64 0, .int .i64 0, .int .i64 0, .int .i64 0], .bool false]) (by simp [results, Tryz.results106, go_sem, m0, m1, m2, m3]) rfl
          ⟨rfl, (((h2.setCell (by simp; omega) _).setCell (by simp; omega) _).setCell (by simp; omega) _).setCell (by simp; omega) _⟩
      | exact bodyPost_ret (v := .tuple #[.agg #[.int .i64 (min a c), .int .i64 (min b d), .int .i64 (max a c), .int .i64 (max b d)], .bool true]) (by simp [results, Tryz.results106, go_sem, m0, m1, m2, m3] <;> omega) rfl
          ⟨rfl, (((h2.setCell (by simp; omega) _).setCell (by simp; omega) _).setCell (by simp; omega) _).setCell (by simp; omega) _⟩
end Go.Proofs.YtahdlijkohmdfaaGreatDoor
namespace Go.Proofs.YtahdlijkohmdfaaGreatDoor
open Go.RowKit

set_option maxHeartbeats 400000 in
theorem plower_any (a b c d : Int) (w : World) :
    Calls Tryz.prog 137 #[.agg #[.int .i64 a, .int .i64 b], .agg #[.int .i64 c, .int .i64 d]] w fun e w' => e = .returned (.agg #[.int .i64 (min a c), .int .i64 (min b d)]) ∧ Below w.heap.size w w' := by
  go_enter Tryz.func137, Tryz.ntmps137
  go_wp2_with fail
  all_goals
    exact bodyPost_ret (v := .agg #[.int .i64 (min a c), .int .i64 (min b d)]) (by simp [results, Tryz.results137, go_sem] <;> omega) rfl
      ⟨rfl, ((((Below.refl _ _).alloc (Nat.le_refl _) _).alloc (by simp) _).alloc (by simp; omega) _)⟩
set_option maxHeartbeats 400000 in
theorem pupper_any (a b c d : Int) (w : World) :
    Calls Tryz.prog 138 #[.agg #[.int .i64 a, .int .i64 b], .agg #[.int .i64 c, .int .i64 d]] w fun e w' => e = .returned (.agg #[.int .i64 (max a c), .int .i64 (max b d)]) ∧ Below w.heap.size w w' := by
  go_enter Tryz.func138, Tryz.ntmps138
  go_wp2_with fail
  all_goals
    exact bodyPost_ret (v := .agg #[.int .i64 (max a c), .int .i64 (max b d)]) (by simp [results, Tryz.results138, go_sem] <;> omega) rfl
      ⟨rfl, ((((Below.refl _ _).alloc (Nat.le_refl _) _).alloc (by simp) _).alloc (by simp; omega) _)⟩

set_option maxHeartbeats 1000000 in
theorem pspan_no (a b c d : Int) (w : World) (h : spB a b c d = false) :
    Calls Tryz.prog 128 #[.agg #[.int .i64 a, .int .i64 b], .agg #[.int .i64 c, .int .i64 d]] w fun e w' => e = .returned (.tuple #[.agg #[.int .i64 0, .int .i64 0, .int .i64 0, .int .i64 0], .bool false]) ∧ Below w.heap.size w w' := by
  have HP := Lib.hid (pright_any a b)
  have HQ := Lib.hid (pright_any c d)
  unfold spB at h
  cases hp : rightB a b with
  | false =>
    rw [hp] at HP
    clear hp h
    go_enter Tryz.func128, Tryz.ntmps128
    go_wp2_with fail
    refine (HP.out _).mono ?_; rintro e w1 ⟨rfl, b1⟩
    have k0 := keep_cell b1 (p := ⟨w.heap.size + 1 + 1, 0, none⟩) (v := .int .i64 0) (by simp [go_sem])
    have k1 := keep_cell b1 (p := ⟨w.heap.size + 1 + 1, 1, none⟩) (v := .int .i64 0) (by simp [go_sem])
    have k2 := keep_cell b1 (p := ⟨w.heap.size + 1 + 1, 2, none⟩) (v := .int .i64 0) (by simp [go_sem])
    have k3 := keep_cell b1 (p := ⟨w.heap.size + 1 + 1, 3, none⟩) (v := .int .i64 0) (by simp [go_sem])
    have f0 := keep_frozen b1 (p := ⟨w.heap.size + 1 + 1, 0, none⟩) (by simp) (by simp [go_sem])
    have f1 := keep_frozen b1 (p := ⟨w.heap.size + 1 + 1, 1, none⟩) (by simp) (by simp [go_sem])
    have f2 := keep_frozen b1 (p := ⟨w.heap.size + 1 + 1, 2, none⟩) (by simp) (by simp [go_sem])
    have f3 := keep_frozen b1 (p := ⟨w.heap.size + 1 + 1, 3, none⟩) (by simp) (by simp [go_sem])
    have h1 : Below w.heap.size w w1 := ((((Below.refl _ _).alloc (Nat.le_refl _) _).alloc (by simp) _).alloc (by simp; omega) _).trans (b1.mono (by simp; omega))
    clear b1
    go_wp2_with fail
    exact bodyPost_ret (v := .tuple #[.agg #[.int .i64 0, .int .i64 0, .int .i64 0, .int .i64 0], .bool false]) (by simp [results, Tryz.results128, go_sem, k0, k1, k2, k3]) rfl
      ⟨rfl, (((h1.setCell (by simp; omega) _).setCell (by simp; omega) _).setCell (by simp; omega) _).setCell (by simp; omega) _⟩
  | true =>
    have hq : rightB c d = false := by rw [hp, Bool.true_and] at h; exact h
    rw [hp] at HP
    rw [hq] at HQ
    clear hp hq h
    go_enter Tryz.func128, Tryz.ntmps128
    go_wp2_with fail
    refine (HP.out _).mono ?_; rintro e w1 ⟨rfl, b1⟩
    have k0 := keep_cell b1 (p := ⟨w.heap.size + 1 + 1, 0, none⟩) (v := .int .i64 0) (by simp [go_sem])
    have k1 := keep_cell b1 (p := ⟨w.heap.size + 1 + 1, 1, none⟩) (v := .int .i64 0) (by simp [go_sem])
    have k2 := keep_cell b1 (p := ⟨w.heap.size + 1 + 1, 2, none⟩) (v := .int .i64 0) (by simp [go_sem])
    have k3 := keep_cell b1 (p := ⟨w.heap.size + 1 + 1, 3, none⟩) (v := .int .i64 0) (by simp [go_sem])
    have k6 := keep_cell b1 (p := ⟨w.heap.size + 1, 0, none⟩) (v := .int .i64 c) (by simp [go_sem])
    have k7 := keep_cell b1 (p := ⟨w.heap.size + 1, 1, none⟩) (v := .int .i64 d) (by simp [go_sem])
    have f0 := keep_frozen b1 (p := ⟨w.heap.size + 1 + 1, 0, none⟩) (by simp) (by simp [go_sem])
    have f1 := keep_frozen b1 (p := ⟨w.heap.size + 1 + 1, 1, none⟩) (by simp) (by simp [go_sem])
    have f2 := keep_frozen b1 (p := ⟨w.heap.size + 1 + 1, 2, none⟩) (by simp) (by simp [go_sem])
    have f3 := keep_frozen b1 (p := ⟨w.heap.size + 1 + 1, 3, none⟩) (by simp) (by simp [go_sem])
    have z1 : w.heap.size + 1 + 1 < w1.heap.size := by have := b1.size; simp at this; omega
    have h1 : Below w.heap.size w w1 := ((((Below.refl _ _).alloc (Nat.le_refl _) _).alloc (by simp) _).alloc (by simp; omega) _).trans (b1.mono (by simp; omega))
    clear b1
    go_wp2_with fail
    refine (HQ.out _).mono ?_; rintro e w2 ⟨rfl, b2⟩
    have m0 := keep_cell b2 k0
    have m1 := keep_cell b2 k1
    have m2 := keep_cell b2 k2
    have m3 := keep_cell b2 k3
    have g0 := keep_frozen b2 z1 f0
    have g1 := keep_frozen b2 z1 f1
    have g2 := keep_frozen b2 z1 f2
    have g3 := keep_frozen b2 z1 f3
    have h2 := h1.trans (b2.mono h1.size)
    clear k0 k1 k2 k3 k6 k7 f0 f1 f2 f3 b2
    go_wp2_with fail
    exact bodyPost_ret (v := .tuple #[.agg #[.int .i64 0, .int .i64 0, .int .i64 0, .int .i64 0], .bool false]) (by simp [results, Tryz.results128, go_sem, m0, m1, m2, m3]) rfl
      ⟨rfl, (((h2.setCell (by simp; omega) _).setCell (by simp; omega) _).setCell (by simp; omega) _).setCell (by simp; omega) _⟩

set_option maxHeartbeats 2000000 in
theorem pspan_yes (a b c d : Int) (w : World) (hp : rightB a b = true) (hq : rightB c d = true) :
    Calls Tryz.prog 128 #[.agg #[.int .i64 a, .int .i64 b], .agg #[.int .i64 c, .int .i64 d]] w fun e w' => e = .returned (.tuple #[.agg #[.int .i64 (min a c), .int .i64 (min b d), .int .i64 (max a c), .int .i64 (max b d)], .bool true]) ∧ Below w.heap.size w w' := by
  have HP := Lib.hid (pright_any a b)
  have HQ := Lib.hid (pright_any c d)
  have HL := Lib.hid (plower_any a b c d)
  have HU := Lib.hid (pupper_any a b c d)
  rw [hp] at HP
  rw [hq] at HQ
  clear hp hq
  generalize min a c = X0 at *
  generalize min b d = X1 at *
  generalize max a c = X2 at *
  generalize max b d = X3 at *
  go_enter Tryz.func128, Tryz.ntmps128
  go_wp2_with fail
  refine (HP.out _).mono ?_; rintro e w1 ⟨rfl, b1⟩
  have k0 := keep_cell b1 (p := ⟨w.heap.size + 1 + 1, 0, none⟩) (v := .int .i64 0) (by simp [go_sem])
  have k1 := keep_cell b1 (p := ⟨w.heap.size + 1 + 1, 1, none⟩) (v := .int .i64 0) (by simp [go_sem])
  have k2 := keep_cell b1 (p := ⟨w.heap.size + 1 + 1, 2, none⟩) (v := .int .i64 0) (by simp [go_sem])
  have k3 := keep_cell b1 (p := ⟨w.heap.size + 1 + 1, 3, none⟩) (v := .int .i64 0) (by simp [go_sem])
  have k4 := keep_cell b1 (p := ⟨w.heap.size, 0, none⟩) (v := .int .i64 a) (by simp [go_sem])
  have k5 := keep_cell b1 (p := ⟨w.heap.size, 1, none⟩) (v := .int .i64 b) (by simp [go_sem])
  have k6 := keep_cell b1 (p := ⟨w.heap.size + 1, 0, none⟩) (v := .int .i64 c) (by simp [go_sem])
  have k7 := keep_cell b1 (p := ⟨w.heap.size + 1, 1, none⟩) (v := .int .i64 d) (by simp [go_sem])
  have f0 := keep_frozen b1 (p := ⟨w.heap.size + 1 + 1, 0, none⟩) (by simp) (by simp [go_sem])
  have f1 := keep_frozen b1 (p := ⟨w.heap.size + 1 + 1, 1, none⟩) (by simp) (by simp [go_sem])
  have f2 := keep_frozen b1 (p := ⟨w.heap.size + 1 + 1, 2, none⟩) (by simp) (by simp [go_sem])
  have f3 := keep_frozen b1 (p := ⟨w.heap.size + 1 + 1, 3, none⟩) (by simp) (by simp [go_sem])
  have z1 : w.heap.size + 1 + 1 < w1.heap.size := by have := b1.size; simp at this; omega
  have h1 : Below w.heap.size w w1 := ((((Below.refl _ _).alloc (Nat.le_refl _) _).alloc (by simp) _).alloc (by simp; omega) _).trans (b1.mono (by simp; omega))
  clear b1
  go_wp2_with fail
  refine (HQ.out _).mono ?_; rintro e w2 ⟨rfl, b2⟩
  have m0 := keep_cell b2 k0
  have m1 := keep_cell b2 k1
  have m2 := keep_cell b2 k2
  have m3 := keep_cell b2 k3
  have m4 := keep_cell b2 k4
  have m5 := keep_cell b2 k5
  have m6 := keep_cell b2 k6
  have m7 := keep_cell b2 k7
  have g0 := keep_frozen b2 z1 f0
  have g1 := keep_frozen b2 z1 f1
  have g2 := keep_frozen b2 z1 f2
  have g3 := keep_frozen b2 z1 f3
  have z2 : w.heap.size + 1 + 1 < w2.heap.size := by have := b2.size; omega
  have h2 := h1.trans (b2.mono h1.size)
  clear k0 k1 k2 k3 k4 k5 k6 k7 f0 f1 f2 f3 b2
  have hne : w.heap.size + 1 + 1 ≠ w.heap.size := by omega
  go_wp2_with fail
  go_region_held3 (fun w' => w'.cell? ⟨w.heap.size, 0, none⟩ = some (.int .i64 a) ∧ w'.cell? ⟨w.heap.size, 1, none⟩ = some (.int .i64 b) ∧ w'.cell? ⟨w.heap.size + 1, 0, none⟩ = some (.int .i64 c) ∧ w'.cell? ⟨w.heap.size + 1, 1, none⟩ = some (.int .i64 d))
    (first | with_reducible exact ⟨m4, m5, m6, m7⟩ | with_reducible exact ⟨o4, o5, o6, o7⟩ | with_reducible exact ⟨q4, q5, q6, q7⟩ | go_keep)
    (first
    | (go_at_call 137; refine (HL.out _).mono ?_; rintro e w3 ⟨rfl, b3⟩
       have B3 : Below w2.heap.size w2 w3 := (Below.refl _ w2).drew.trans b3
       have o0 := keep_cell B3 m0
       have o1 := keep_cell B3 m1
       have o2 := keep_cell B3 m2
       have o3 := keep_cell B3 m3
       have o4 := keep_cell B3 m4
       have o5 := keep_cell B3 m5
       have o6 := keep_cell B3 m6
       have o7 := keep_cell B3 m7
       have p0 := keep_frozen B3 z2 g0
       have p1 := keep_frozen B3 z2 g1
       have p2 := keep_frozen B3 z2 g2
       have p3 := keep_frozen B3 z2 g3
       have h3 := h2.trans (B3.mono h2.size))
    | (go_at_call 138; refine (HU.out _).mono ?_; rintro e w4 ⟨rfl, b4⟩
       have B4 : Below w2.heap.size w2 w4 := B3.trans (b4.mono B3.size)
       have q0 := keep_cell B4 m0
       have q1 := keep_cell B4 m1
       have q2 := keep_cell B4 m2
       have q3 := keep_cell B4 m3
       have q4 := keep_cell B4 m4
       have q5 := keep_cell B4 m5
       have q6 := keep_cell B4 m6
       have q7 := keep_cell B4 m7
       have r0 := keep_frozen B4 z2 g0
       have r1 := keep_frozen B4 z2 g1
       have r2 := keep_frozen B4 z2 g2
       have r3 := keep_frozen B4 z2 g3
       have h4 := h2.trans (B4.mono h2.size)))
  all_goals
    go_wp2
    exact bodyPost_ret (v := .tuple #[.agg #[.int .i64 X0, .int .i64 X1, .int .i64 X2, .int .i64 X3], .bool true]) (by simp [results, Tryz.results128, go_sem, q0, q1, q2, q3]) rfl
      ⟨rfl, (((h4.setCell (by simp; omega) _).setCell (by simp; omega) _).setCell (by simp; omega) _).setCell (by simp; omega) _⟩

theorem pspan_any (a b c d : Int) (w : World) :
    Calls Tryz.prog 128 #[.agg #[.int .i64 a, .int .i64 b], .agg #[.int .i64 c, .int .i64 d]] w fun e w' => e = .returned (.tuple #[.agg #[.int .i64 (spN (spB a b c d) (min a c)), .int .i64 (spN (spB a b c d) (min b d)), .int .i64 (spN (spB a b c d) (max a c)), .int .i64 (spN (spB a b c d) (max b d))], .bool (spB a b c d)]) ∧ Below w.heap.size w w' := by
  cases h : spB a b c d with
  | false => exact pspan_no a b c d w h
  | true =>
    have h' := h
    unfold spB at h'
    rw [Bool.and_eq_true] at h'
    exact pspan_yes a b c d w h'.1 h'.2

set_option maxHeartbeats 1000000 in
theorem pwhole_any (a b c d : Int) (w : World) :
    Calls Tryz.prog 76 #[.agg #[.int .i64 a, .int .i64 b, .int .i64 c, .int .i64 d]] w fun e w' => e = .returned (.bool (wholeB a b c d)) ∧ Below w.heap.size w w' := by
  have HF := Lib.hid (pright_any a b)
  have HT := Lib.hid (pright_any c d)
  cases hf : rightB a b with
  | false =>
    have e1 := Lib.hid (show wholeB a b c d = false from by unfold wholeB; rw [hf]; rfl)
    rw [hf] at HF
    clear hf
    go_enter Tryz.func76, Tryz.ntmps76
    go_wp2_with fail
    refine (HF.out _).mono ?_; rintro e w1 ⟨rfl, b1⟩
    have h1 : Below w.heap.size w w1 := ((Below.refl _ _).alloc (Nat.le_refl _) _).trans (b1.mono (by simp))
    clear b1
    go_wp2_with fail
    go_ret
    exact ⟨ret_bool e1.out.symm, h1⟩
  | true =>
    rw [hf] at HF
    cases ht : rightB c d with
    | false =>
      have e1 := Lib.hid (show wholeB a b c d = false from by unfold wholeB; rw [hf, ht]; rfl)
      rw [ht] at HT
      clear hf ht
      go_enter Tryz.func76, Tryz.ntmps76
      go_wp2_with fail
      refine (HF.out _).mono ?_; rintro e w1 ⟨rfl, b1⟩
      have k2 := keep_fresh b1 2 (v := .int .i64 c) rfl
      have k3 := keep_fresh b1 3 (v := .int .i64 d) rfl
      go_wp2_with fail
      refine (HT.out _).mono ?_; rintro e w2 ⟨rfl, b2⟩
      have h1 : Below w.heap.size w w1 := ((Below.refl _ _).alloc (Nat.le_refl _) _).trans (b1.mono (by simp))
      have h2 := h1.trans (b2.mono h1.size)
      clear k2 k3 b1 b2
      go_wp2_with fail
      go_ret
      exact ⟨ret_bool e1.out.symm, h2⟩
    | true =>
      have e1 := Lib.hid (show wholeB a b c d = (decide (a ≤ c) && decide (b ≤ d)) from by unfold wholeB; rw [hf, ht]; rfl)
      rw [ht] at HT
      clear hf ht
      go_enter Tryz.func76, Tryz.ntmps76
      go_wp2_with fail
      refine (HF.out _).mono ?_; rintro e w1 ⟨rfl, b1⟩
      have j0 := keep_fresh b1 0 (v := .int .i64 a) rfl
      have j1 := keep_fresh b1 1 (v := .int .i64 b) rfl
      have j2 := keep_fresh b1 2 (v := .int .i64 c) rfl
      have j3 := keep_fresh b1 3 (v := .int .i64 d) rfl
      go_wp2_with fail
      refine (HT.out _).mono ?_; rintro e w2 ⟨rfl, b2⟩
      have k0 := keep_cell b2 j0
      have k1 := keep_cell b2 j1
      have k2 := keep_cell b2 j2
      have k3 := keep_cell b2 j3
      have h1 : Below w.heap.size w w1 := ((Below.refl _ _).alloc (Nat.le_refl _) _).trans (b1.mono (by simp))
      have h2 := h1.trans (b2.mono h1.size)
      clear j0 j1 j2 j3 b1 b2
      by_cases hac : a ≤ c
      · have d1 : decide (a ≤ c) = true := decide_eq_true hac
        rw [d1, Bool.true_and] at e1
        clear hac
        go_wp2_with fail
        go_ret
        exact ⟨ret_bool e1.out.symm, h2⟩
      · have d1 : decide (a ≤ c) = false := decide_eq_false hac
        rw [d1, Bool.false_and] at e1
        clear hac
        go_wp2_with fail
        go_ret
        exact ⟨ret_bool e1.out.symm, h2⟩
end Go.Proofs.YtahdlijkohmdfaaGreatDoor
