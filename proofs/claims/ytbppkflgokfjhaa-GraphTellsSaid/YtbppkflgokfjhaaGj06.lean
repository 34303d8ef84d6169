/- Texts joined: GpD, GpN, GpG, GjA, NdOb, GpH. -/
import Derived.Test.YtbppkflgokfjhaaGj03
import Derived.Test.YtbppkflgokfjhaaGj05
import Derived.Shelf.AbstractIn
import Derived.RangeFuncMany
import Derived.RangeFuncLeaves
import Derived.Sort.MapsRangeIn
import Derived.Sort.KeysCollected
import Derived.WalkKit
import Derived.OwnWalkIn
import Derived.TacticsInMore
import Derived.RegionIn
import Derived.LoopNIn
import Derived.LoopIn
import Derived.ScopeJumps
import Derived.WalkMore
import Derived.Test.YtbppkflgokfjhaaGj02
import Derived.Deep.RegionLawGrows
import Derived.Deep.RegionHeld3
import Derived.Deep.LoopGhost
set_option linter.all false
namespace Go.Proofs.Ytbppkflgokfjhaa
def bn (n : Int) : Int := -n - 1
def num (e : Int) : Int := if e < 0 then -e - 1 else e
theorem bn_bn (n : Int) : bn (bn n) = n := by unfold bn; omega
theorem num_bn {n : Int} (h : 0 ≤ n) : num (bn n) = n := by unfold num bn; rw [if_pos (by omega)]; omega
theorem num_pos {n : Int} (h : 0 ≤ n) : num n = n := by unfold num; rw [if_neg (by omega)]
def gry (left : List Int) : List Int := (left.filter fun e => decide (e < 0)).map bn
theorem gry_app (a b : List Int) : gry (a ++ b) = gry a ++ gry b := by unfold gry; rw [List.filter_append, List.map_append]
theorem gry_none {a : List Int} (h : ∀ x ∈ a, 0 ≤ x) : gry a = [] := by
  unfold gry
  rw [List.map_eq_nil_iff, List.filter_eq_nil_iff]
  intro x hx
  have := h x hx
  simp; omega
theorem gry_one {n : Int} (h : n < 0) : gry [n] = [bn n] := by unfold gry; simp [h]
def wtN (R1 : Int → List Int) (M : Int → Bool) : Nat → Nat
  | 0 => 0
  | k + 1 => wtN R1 M k + if M (k : Int) = true then 0 else 1 + (R1 (k : Int)).length
theorem wtN_same {R1 : Int → List Int} {M : Int → Bool} {j : Nat} : ∀ {k : Nat}, k ≤ j → wtN R1 (updB M (j : Int)) k = wtN R1 M k
  | 0, _ => rfl
  | k + 1, h => by
    rw [wtN, wtN, wtN_same (by omega : k ≤ j)]
    unfold updB
    rw [if_neg (by omega : ¬ (k : Int) = (j : Int))]
theorem wtN_upd {R1 : Int → List Int} {M : Int → Bool} {j : Nat} (hM : M (j : Int) = false) : ∀ {k : Nat}, j < k → wtN R1 (updB M (j : Int)) k + (1 + (R1 (j : Int)).length) = wtN R1 M k
  | 0, h => by omega
  | k + 1, h => by
    rw [wtN, wtN]
    by_cases e : j = k
    · subst e
      rw [wtN_same (Nat.le_refl _), hM]
      unfold updB
      simp
    · have := wtN_upd (R1 := R1) hM (by omega : j < k)
      have h2 : updB M (j : Int) (k : Int) = M (k : Int) := by unfold updB; rw [if_neg (by omega)]
      rw [h2]
      omega
theorem wtN_le {R1 : Int → List Int} {M : Int → Bool} (h : ∀ n, (R1 n).length ≤ 60) : ∀ k : Nat, wtN R1 M k ≤ 61 * k
  | 0 => Nat.le_refl _
  | k + 1 => by
    have h1 := wtN_le (M := M) h k
    have h2 := h (k : Int)
    rw [wtN]
    split <;> omega
structure Dfs (L : List Lk) (left : List Int) (M : Int → Bool) (l : List Int) : Prop where
  rng : ∀ e ∈ left, okN (num e)
  lr : ∀ e ∈ l, okN e
  nd : (l ++ gry left).Nodup
  met : ∀ x, M x = true ↔ x ∈ l ∨ x ∈ gry left
  blk : ∀ b ∈ l, ∀ y, Ed L b y → M y = true
  lead : ∀ A g B, left = A ++ bn g :: B → 0 ≤ g → ∀ e ∈ B, Hng L [num e] g
  gray : ∀ A g B, left = A ++ bn g :: B → 0 ≤ g → ∀ y, Ed L g y → M y = true ∨ y ∈ B
  fin : FinL L l
  all : ∀ n, isN L n → M n = true ∨ n ∈ left
theorem ed_rng {L : List Lk} (hk : OkK L) {n y : Int} (h : Ed L n y) : okN n ∧ okN y := by
  obtain ⟨x, hx, rfl, hy⟩ := h
  exact ⟨(hk x hx).1, (hk x hx).2 y hy⟩
theorem node_rng {L : List Lk} (hk : OkK L) {n : Int} (h : isN L n) : okN n := by
  obtain ⟨x, hx, rfl⟩ := h
  exact (hk x hx).1
theorem Dfs.start {L : List Lk} (hk : OkK L) : Dfs L (nodesG L 1024) (fun _ => false) [] := by
  have h0 : ∀ x ∈ nodesG L 1024, 0 ≤ x := fun x hx => (upto_mem.1 hx).1
  have hg : gry (nodesG L 1024) = [] := gry_none h0
  have hno : ∀ A g B, nodesG L 1024 = A ++ bn g :: B → 0 ≤ g → False := fun A g B e hge => by
    have := h0 (bn g) (by rw [e]; simp)
    unfold bn at this
    omega
  refine ⟨fun e he => ?_, fun e he => (by cases he), ?_, fun x => ?_, fun b hb => (by cases hb), fun A g B e hge => (hno A g B e hge).elim, fun A g B e hge => (hno A g B e hge).elim, fun p x q e => ?_, fun n hn => .inr ((nodesG_mem hk).2 hn)⟩
  · rw [num_pos (h0 e he)]
    exact node_rng hk ((nodesG_mem hk).1 he)
  · rw [hg]; exact List.nodup_nil
  · rw [hg]; simp
  · simp at e
section
variable {L : List Lk} {left l : List Int} {M : Int → Bool} {n : Int}
theorem Dfs.close (hk : OkK L) (h : Dfs L (left ++ [n]) M l) (hn : n < 0) : Dfs L left M (l ++ [bn n]) := by
  have hg : gry (left ++ [n]) = gry left ++ [bn n] := by rw [gry_app, gry_one hn]
  have hnd := h.nd
  rw [hg] at hnd
  have hx0 : 0 ≤ bn n := by unfold bn; omega
  have hme : ∀ y, M y = true ↔ y ∈ l ∨ y ∈ gry left ∨ y = bn n := fun y => by
    rw [h.met y, hg, List.mem_append, List.mem_singleton]
  have hred : ∀ y, Ed L (bn n) y → M y = true := fun y hy => by
    rcases h.gray left (bn n) [] (by rw [bn_bn]) hx0 y hy with c | c
    · exact c
    · cases c
  have hlt : ∀ y, y ∈ gry left → Hng L [bn n] y := fun y hy => by
    unfold gry at hy
    obtain ⟨e, he, rfl⟩ := List.mem_map.1 hy
    obtain ⟨he1, he2⟩ := List.mem_filter.1 he
    have he2 : e < 0 := by simpa using he2
    obtain ⟨A, B, hAB⟩ := List.append_of_mem he1
    have := h.lead A (bn e) (B ++ [n]) (by rw [bn_bn, hAB]; simp) (by unfold bn; omega) n (by simp)
    unfold num at this
    rw [if_pos hn] at this
    exact this
  refine ⟨fun e he => h.rng e (List.mem_append.2 (.inl he)), fun e he => ?_, ?_, fun y => ?_, fun b hb y hy => ?_, fun A g B e hge => ?_, fun A g B e hge => ?_, fun p x q e y hy => ?_, fun m hm => ?_⟩
  · rcases List.mem_append.1 he with c | c
    · exact h.lr e c
    · obtain rfl : e = bn n := by simpa using c
      have := h.rng n (by simp)
      unfold num at this
      rw [if_pos hn] at this
      exact this
  · refine (List.Perm.nodup_iff ?_).1 hnd
    rw [List.append_assoc]
    exact List.Perm.append_left l List.perm_append_comm
  · rw [hme y, List.mem_append, List.mem_singleton]
    constructor
    · rintro (c | c | c)
      · exact .inl (.inl c)
      · exact .inr c
      · exact .inl (.inr c)
    · rintro ((c | c) | c)
      · exact .inl c
      · exact .inr (.inr c)
      · exact .inr (.inl c)
  · rcases List.mem_append.1 hb with c | c
    · exact h.blk b c y hy
    · obtain rfl : b = bn n := by simpa using c
      exact hred y hy
  · intro z hz
    exact h.lead A g (B ++ [n]) (by rw [e]; simp) hge z (by simp [hz])
  · intro y hy
    rcases h.gray A g (B ++ [n]) (by rw [e]; simp) hge y hy with c | c
    · exact .inl c
    · rcases List.mem_append.1 c with c | c
      · exact .inr c
      · obtain rfl : y = n := by simpa using c
        have := (ed_rng hk hy).2
        unfold okN at this
        omega
  · rcases List.append_eq_append_iff.1 e with ⟨a', e1, e2⟩ | ⟨c', e1, e2⟩
    · -- the last one, or none
      cases a' with
      | nil =>
        rw [List.nil_append] at e2
        injection e2 with e3 e4
        subst e3
        rw [List.append_nil] at e1
        subst e1
        rcases (hme y).1 (hred y hy) with c | c | c
        · by_cases hyx : LdT L y (bn n)
          · exact .inl hyx
          · refine .inr fun z hz => ?_
            rcases hz with rfl | hz
            · exact c
            · refine hng_ind (P := fun v => v ∈ p → ¬ LdT L v (bn n) → z ∈ p) (fun v r he hr hv hvx => ?_) (fun v r he hr ih hv hvx => ?_) hz c hyx
              · obtain rfl : r = z := by simpa using hr
                rcases (hme r).1 (h.blk v hv r he) with q | q | q
                · exact q
                · exact absurd (.inr (hng_trans he.one (hlt r q))) hvx
                · exact absurd (.inr (q ▸ he.one)) hvx
              · have hrx : ¬ LdT L r (bn n) := fun q => hvx (.inr (hng_ldt he.one q))
                refine ih ?_ hrx
                rcases (hme r).1 (h.blk v hv r he) with q | q | q
                · exact q
                · exact absurd (.inr (hlt r q)) hrx
                · exact absurd (.inl q) hrx
        · exact .inl (.inr (hlt y c))
        · exact .inl (.inl c)
      | cons a t =>
        have := congrArg List.length e2
        simp at this
    · cases c' with
      | nil =>
        rw [List.nil_append] at e2
        injection e2 with e3 e4
        subst e3
        rw [List.append_nil] at e1
        subst e1
        rcases (hme y).1 (hred y hy) with c | c | c
        · by_cases hyx : LdT L y (bn n)
          · exact .inl hyx
          · refine .inr fun z hz => ?_
            rcases hz with rfl | hz
            · exact c
            · refine hng_ind (P := fun v => v ∈ l → ¬ LdT L v (bn n) → z ∈ l) (fun v r he hr hv hvx => ?_) (fun v r he hr ih hv hvx => ?_) hz c hyx
              · obtain rfl : r = z := by simpa using hr
                rcases (hme r).1 (h.blk v hv r he) with q | q | q
                · exact q
                · exact absurd (.inr (hng_trans he.one (hlt r q))) hvx
                · exact absurd (.inr (q ▸ he.one)) hvx
              · have hrx : ¬ LdT L r (bn n) := fun q => hvx (.inr (hng_ldt he.one q))
                refine ih ?_ hrx
                rcases (hme r).1 (h.blk v hv r he) with q | q | q
                · exact q
                · exact absurd (.inr (hlt r q)) hrx
                · exact absurd (.inl q) hrx
        · exact .inl (.inr (hlt y c))
        · exact .inl (.inl c)
      | cons a t =>
        rw [List.cons_append] at e2
        injection e2 with e3 e4
        subst e3
        exact h.fin p x t e1 y hy
  · rcases h.all m hm with c | c
    · exact .inl c
    · rcases List.mem_append.1 c with c | c
      · exact .inr c
      · obtain rfl : m = n := by simpa using c
        have := node_rng hk hm
        unfold okN at this
        omega
theorem Dfs.drop (h : Dfs L (left ++ [n]) M l) (hn : 0 ≤ n) (hm : M n = true) : Dfs L left M l := by
  have hg : gry (left ++ [n]) = gry left := by rw [gry_app, gry_none (a := [n]) (by simpa using hn), List.append_nil]
  refine ⟨fun e he => h.rng e (List.mem_append.2 (.inl he)), h.lr, hg ▸ h.nd, fun x => by rw [← hg]; exact h.met x, h.blk, fun A g B e hge z hz => h.lead A g (B ++ [n]) (by rw [e]; simp) hge z (by simp [hz]), fun A g B e hge y hy => ?_, h.fin, fun m hmn => ?_⟩
  · rcases h.gray A g (B ++ [n]) (by rw [e]; simp) hge y hy with c | c
    · exact .inl c
    · rcases List.mem_append.1 c with c | c
      · exact .inr c
      · obtain rfl : y = n := by simpa using c
        exact .inl hm
  · rcases h.all m hmn with c | c
    · exact .inl c
    · rcases List.mem_append.1 c with c | c
      · exact .inr c
      · obtain rfl : m = n := by simpa using c
        exact .inl hm
theorem Dfs.meet (hk : OkK L) (h : Dfs L (left ++ [n]) M l) (hn : 0 ≤ n) (hm : M n = false) {R : List Int} (hR : ∀ y, y ∈ R ↔ Ed L n y) : Dfs L (left ++ bn n :: R) (updB M n) l := by
  have hg : gry (left ++ [n]) = gry left := by rw [gry_app, gry_none (a := [n]) (by simpa using hn), List.append_nil]
  have hR0 : ∀ y ∈ R, 0 ≤ y := fun y hy => ((ed_rng hk ((hR y).1 hy)).2).1
  have hb0 : bn n < 0 := by unfold bn; omega
  have hg2 : gry (left ++ bn n :: R) = gry left ++ [n] := by
    rw [show left ++ bn n :: R = left ++ ([bn n] ++ R) from rfl, gry_app, gry_app, gry_one hb0, gry_none hR0, bn_bn, List.append_nil]
  have hno : n ∉ l ∧ n ∉ gry left := by
    constructor
    · intro c
      have := (h.met n).2 (.inl c)
      rw [hm] at this; cases this
    · intro c
      have := (h.met n).2 (.inr (by rw [hg]; exact c))
      rw [hm] at this; cases this
  have hup : ∀ y, M y = true → updB M n y = true := fun y hy => by
    unfold updB; split
    · rfl
    · exact hy
  have hnn : updB M n n = true := by unfold updB; rw [if_pos rfl]
  have split : ∀ A g B, left ++ bn n :: R = A ++ bn g :: B → 0 ≤ g → (∃ B1, left = A ++ bn g :: B1 ∧ B = B1 ++ bn n :: R) ∨ (g = n ∧ B = R) := fun A g B e hge => by
    have hbg : bn g < 0 := by unfold bn; omega
    rcases List.append_eq_append_iff.1 e with ⟨a', e1, e2⟩ | ⟨c', e1, e2⟩
    · cases a' with
      | nil =>
        rw [List.nil_append] at e2
        injection e2 with e3 e4
        refine .inr ⟨?_, e4.symm⟩
        have := congrArg bn e3
        rw [bn_bn, bn_bn] at this
        exact this.symm
      | cons a t =>
        rw [List.cons_append] at e2
        injection e2 with e3 e4
        have := hR0 (bn g) (by rw [e4]; simp)
        omega
    · cases c' with
      | nil =>
        rw [List.nil_append] at e2
        injection e2 with e3 e4
        refine .inr ⟨?_, e4⟩
        have := congrArg bn e3
        rw [bn_bn, bn_bn] at this
        exact this
      | cons a t =>
        rw [List.cons_append] at e2
        injection e2 with e3 e4
        subst e3
        exact .inl ⟨t, e1, e4⟩
  refine ⟨fun e he => ?_, h.lr, ?_, fun x => ?_, fun b hb y hy => hup y (h.blk b hb y hy), fun A g B e hge z hz => ?_, fun A g B e hge y hy => ?_, h.fin, fun m hmn => ?_⟩
  · rcases List.mem_append.1 he with c | c
    · exact h.rng e (List.mem_append.2 (.inl c))
    · rcases List.mem_cons.1 c with rfl | c
      · rw [num_bn hn]
        have := h.rng n (by simp)
        rwa [num_pos hn] at this
      · rw [num_pos (hR0 e c)]
        exact (ed_rng hk ((hR e).1 c)).2
  · rw [hg2, ← List.append_assoc]
    have := h.nd
    rw [hg] at this
    refine List.nodup_append.2 ⟨this, by simp, fun a ha b hb e => ?_⟩
    obtain rfl : b = n := by simpa using hb
    subst e
    rcases List.mem_append.1 ha with c | c
    · exact hno.1 c
    · exact hno.2 c
  · rw [hg2, List.mem_append, List.mem_singleton]
    unfold updB
    by_cases e : x = n
    · rw [if_pos e]
      exact ⟨fun _ => .inr (.inr e), fun _ => rfl⟩
    · rw [if_neg e, h.met x, hg]
      constructor
      · rintro (c | c)
        · exact .inl c
        · exact .inr (.inl c)
      · rintro (c | c | c)
        · exact .inl c
        · exact .inr c
        · exact absurd c e
  · rcases split A g B e hge with ⟨B1, e1, rfl⟩ | ⟨rfl, rfl⟩
    · have hgn : Hng L [n] g := by
        have := h.lead A g (B1 ++ [n]) (by rw [e1]; simp) hge n (by simp)
        rwa [num_pos hn] at this
      rcases List.mem_append.1 hz with c | c
      · exact h.lead A g (B1 ++ [n]) (by rw [e1]; simp) hge z (by simp [c])
      · rcases List.mem_cons.1 c with rfl | c
        · rw [num_bn hn]; exact hgn
        · rw [num_pos (hR0 z c)]
          exact hng_trans hgn ((hR z).1 c).one
    · rw [num_pos (hR0 z hz)]
      exact ((hR z).1 hz).one
  · rcases split A g B e hge with ⟨B1, e1, rfl⟩ | ⟨rfl, rfl⟩
    · rcases h.gray A g (B1 ++ [n]) (by rw [e1]; simp) hge y hy with c | c
      · exact .inl (hup y c)
      · rcases List.mem_append.1 c with c | c
        · exact .inr (List.mem_append.2 (.inl c))
        · obtain rfl : y = n := by simpa using c
          exact .inl hnn
    · exact .inr ((hR y).2 hy)
  · rcases h.all m hmn with c | c
    · exact .inl (hup m c)
    · rcases List.mem_append.1 c with c | c
      · exact .inr (List.mem_append.2 (.inl c))
      · obtain rfl : m = n := by simpa using c
        exact .inl hnn
theorem Dfs.len (h : Dfs L left M l) : l.length ≤ 1024 := by
  have := found_len (L := (upto (fun _ => True) 1024).map fun n => ⟨n, []⟩) (List.nodup_append.1 h.nd).1 fun n hn => by
    have := h.lr n hn
    unfold okN at this
    exact ⟨⟨n, []⟩, List.mem_map.2 ⟨n, upto_mem.2 ⟨this.1, by omega, trivial⟩, rfl⟩, rfl⟩
  rw [List.length_map] at this
  exact Nat.le_trans this (upto_len _ _)
theorem Dfs.done (h : Dfs L [] M l) : FinL L l ∧ l.Nodup ∧ (∀ n, isN L n → n ∈ l) := by
  have hnd := h.nd
  have hg : gry [] = [] := rfl
  rw [hg, List.append_nil] at hnd
  refine ⟨h.fin, hnd, fun n hn => ?_⟩
  rcases h.all n hn with c | c
  · rcases (h.met n).1 c with c | c
    · exact c
    · rw [hg] at c; cases c
  · cases c
end
end Go.Proofs.Ytbppkflgokfjhaa
namespace Go.Proofs.Ytbppkflgokfjhaa
open Go.RowKit Go.Maps Go.Sort Go.Shelf
theorem sortsG (m : Nat) : AnyZI.SortsIn Try.prog Try.sortedA_ren Fence.wide m :=
  ⟨fun blk off cap ss W hH hblk hsz => callsIn_wide.2 (AnyM.slices_Sort_int Try.sortA blk off cap ss W hH hblk hsz),
   fun p cap W => callsIn_wide.2 (AnyM.slices_Sort_int_none Try.sortA p cap W)⟩
theorem own_encG {w : World} {base n : Nat} {v : Value} {l : List Int} (h : w.ownsRow base 3 1 v n (l.map encZ)) (hn : n = l.length) : OwnR 3 1 inW base w v l := by
  subst hn
  have hm : l.map encZ = l.flatMap inW := by
    rw [List.map_eq_flatMap]; rfl
  rw [hm] at h
  exact h
def ORow (w : World) (L : List Int) (e : Ending) (w' : World) : Prop := ∃ v, e = .returned v ∧ OwnR 3 1 inW w.heap.size w' v L ∧ Below w.heap.size w w'
theorem ORow.g {w w' : World} {L : List Int} {e : Ending} (h : ORow w L e w') : GRow w L e w' := by
  obtain ⟨v, he, ho, hb⟩ := h
  obtain ⟨A, cap, hv, hk, hr⟩ := own_rowG ho
  exact ⟨A, cap, by rw [he, hv], hk, hr, hb⟩
theorem gsorted_of {w : World} (g : Nat) (lb : Array Value) (eg : ∀ args w, (callFunc g args).run Try.prog w = .ok (.enter g args) w) (S : List Int → Prop) (l : List Int) (hl : l.Pairwise (· < ·)) (hS : ∀ ss, S ss → ss.Perm l) (N : Nat) (hN : N ≤ 65536) (hseq : SeqGives Fence.wide 2 Try.prog g lb encZ S N w) :
    Calls Try.prog 23 #[.func (.func g) #[] lb] w fun e w' => ORow w l e w' := by
  have cS := AnyZI.sorted_in Try.sortedA Fence.wide 5 trivial trivial trivial trivial rfl (by omega) (sortsG _) (enters_of Try.func29 (by kernel_rfl) rfl) g lb trivial eg _ _ (by unfold maxLen; omega) (by omega) w hseq
  refine (callsIn_wide.1 cS).mono fun e w' ⟨v, ss, he, hs, hrow, _, hb⟩ => ?_
  have hp := hS ss hs
  have e1 : (ss.mergeSort fun x y => decide (x ≤ y)) = l := by
    show ss.mergeSort leI = l
    rw [mergeSort_of_perm_i hp, rise_sort hl]
  rw [e1] at hrow
  exact ⟨v, he, own_encG hrow hp.length_eq, hb⟩
set_option maxHeartbeats 4000000 in
set_option maxRecDepth 10000 in
theorem gKeys_any (mb : Option Nat) (w : World) : Calls Try.prog 24 #[.map mb] w fun e w' => e = .returned (.func (.func 43) #[] #[.pointer (some ⟨w.heap.size, 0, none⟩)]) ∧ w' = w.alloc (.cells #[.map mb] 46) := by
  go_enter Try.func24, Try.ntmps24
  go_wp2_with fail
  go_ret
  exact ⟨rfl, rfl⟩
set_option maxHeartbeats 8000000 in
set_option maxRecDepth 10000 in
theorem pnodes_any (w : World) (g : Nat) (L : List Lk) (hP : GP12 w g L) (hk : OkK L) :
    Calls Try.prog 11 #[.pointer (some ⟨g, 0, none⟩)] w fun e w' => ORow w (nodesG L 1024) e w' := by
  obtain ⟨b1, b2, n1, n2, f1, f2, R1, R2, hG⟩ := hP
  have c0 := hG.c0
  have hba : Below w.heap.size w (w.alloc (.cells #[.map (some b1)] 46)) := (Below.refl _ _).alloc (Nat.le_refl _) _
  have hblk := (MapKept.heap_alloc w (.cells #[.map (some b1)] 46)).1
  have hcell : (w.alloc (.cells #[.map (some b1)] 46)).cell? ⟨w.heap.size, 0, none⟩ = some (.map (some b1)) := by rw [Lib.cell_of_heap hblk]; rfl
  obtain ⟨D, hD, hI⟩ := hG.m1.below hba
  obtain ⟨hp, hsz⟩ := hI.keys hD (L := nodesG L 1024) (upto_nodup _ _) fun x => by rw [nodesG_mem hk, hG.nod x]
  have hnl : (nodesG L 1024).length ≤ 1024 := upto_len _ _
  have HS := Lib.hid (gsorted_of 43 #[.pointer (some ⟨w.heap.size, 0, none⟩)] (enters_of Try.func43 (by kernel_rfl) rfl) (fun ss => ss.Perm (intKeys D)) (nodesG L 1024) (upto_rise _ _) (fun ss hs => hs.trans hp.symm) (Maps.size D) (by omega)
    (AnyZI.keys_gives (ρ := Try.keysA_ren) { Try.keysA with } Fence.wide _ trivial rfl (by omega) w.heap.size b1 _ D (w.alloc (.cells #[.map (some b1)] 46)) (by simp) hcell hD))
  have HBa := Lib.hid hba
  clear hG hD hI hp hsz hnl hblk hcell hba hk
  go_enter Try.func11, Try.ntmps11
  go_wp2_with fail
  refine (gKeys_any (some b1) w).mono ?_; rintro e w2 ⟨rfl, rfl⟩
  go_wp2_with fail
  refine HS.out.mono ?_; rintro e w2 ⟨v, rfl, ho, hb⟩
  have HO := Lib.hid (OwnR.lowerG ho HBa.out.size)
  have HB := Lib.hid (HBa.out.trans (hb.mono HBa.out.size))
  clear ho hb HS
  go_wp2_with fail
  go_ret
  exact ⟨v, rfl, HO.out, HB.out⟩
end Go.Proofs.Ytbppkflgokfjhaa
namespace Go.Proofs.Ytbppkflgokfjhaa
structure HgS (L : List Lk) (M : Int → Bool) (on : List Int) (i : Nat) (found : List Int) (M' : Int → Bool) : Prop where
  ii : HgI L M on found M'
  le : i ≤ on.length + found.length
  done : ∀ j y, j < i → (on ++ found)[j]? = some y → ∀ r, Ed L r y → M' r = true
structure HgT (L : List Lk) (M : Int → Bool) (on : List Int) (i k : Nat) (y : Int) (R : List Int) (fd : List Int) (M2 : Int → Bool) : Prop where
  ii : HgI L M on fd M2
  aty : (on ++ fd)[i]? = some y
  done : ∀ j z, j < i → (on ++ fd)[j]? = some z → ∀ r, Ed L r z → M2 r = true
  here : ∀ r ∈ R.take k, M2 r = true
theorem HgS.start (L : List Lk) (M : Int → Bool) (on : List Int) : HgS L M on 0 [] M := ⟨HgI.start L M on, Nat.zero_le _, fun j y h => absurd h (Nat.not_lt_zero _)⟩
theorem HgS.enter {L : List Lk} {M M' : Int → Bool} {on found : List Int} {i : Nat} (h : HgS L M on i found M') {y : Int} (hy : (on ++ found)[i]? = some y) (R : List Int) : HgT L M on i 0 y R found M' := ⟨h.ii, hy, h.done, fun r hr => by simp at hr⟩
theorem take_nextG {p : Int → Prop} {l : List Int} {i : Nat} {q : Int} (hq : l[i]? = some q) (h : ∀ x ∈ l.take i, p x) (hp : p q) : ∀ x ∈ l.take (i + 1), p x := fun x hx => by
  rw [List.take_add_one, hq] at hx
  rcases List.mem_append.1 hx with e | e
  · exact h x e
  · obtain rfl : x = q := by simpa using e
    exact hp
theorem HgT.skip {L : List Lk} {M M2 : Int → Bool} {on fd R : List Int} {i k : Nat} {y r : Int} (h : HgT L M on i k y R fd M2) (hr : R[k]? = some r) (hm : M2 r = true) : HgT L M on i (k + 1) y R fd M2 :=
  ⟨h.ii, h.aty, h.done, take_nextG (p := fun r => M2 r = true) hr h.here hm⟩
theorem HgT.add {L : List Lk} {M M2 : Int → Bool} {on fd R : List Int} {i k : Nat} {y r : Int} (h : HgT L M on i k y R fd M2) (hr : R[k]? = some r) (hm : M2 r = false) (he : Ed L r y) : HgT L M on i (k + 1) y R (fd ++ [r]) (updB M2 r) := by
  have hup : ∀ n, M2 n = true → updB M2 r n = true := fun n hn => by
    unfold updB
    split
    · rfl
    · exact hn
  have hlt : i < (on ++ fd).length := (List.getElem?_eq_some_iff.1 h.aty).1
  refine ⟨h.ii.step he (List.mem_of_getElem? h.aty) hm, ?_, fun j z hj hz q hq => hup _ (h.done j z hj ?_ q hq), take_nextG (p := fun n => updB M2 r n = true) hr (fun x hx => hup x (h.here x hx)) ?_⟩
  · rw [← List.append_assoc, List.getElem?_append_left hlt]; exact h.aty
  · rw [← List.append_assoc, List.getElem?_append_left (by omega)] at hz; exact hz
  · unfold updB; rw [if_pos rfl]
theorem HgT.leave {L : List Lk} {M M2 : Int → Bool} {on fd R : List Int} {i : Nat} {y : Int} (h : HgT L M on i R.length y R fd M2) (hR : ∀ r, Ed L r y → r ∈ R) : HgS L M on (i + 1) fd M2 := by
  have hlt : i < (on ++ fd).length := (List.getElem?_eq_some_iff.1 h.aty).1
  rw [List.length_append] at hlt
  refine ⟨h.ii, by omega, fun j z hj hz r hr => ?_⟩
  by_cases e : j = i
  · subst e
    rw [h.aty] at hz
    cases hz
    exact h.here r (by rw [List.take_length]; exact hR r hr)
  · exact h.done j z (by omega) hz r hr
theorem HgS.all {L : List Lk} {M M' : Int → Bool} {on found : List Int} {i : Nat} (h : HgS L M on i found M') (hi : i = on.length + found.length) (n : Int) : n ∈ found ↔ Hng (unm L M) on n := by
  refine h.ii.done (fun y hy r hr => ?_) n
  obtain ⟨j, hj⟩ := List.mem_iff_getElem?.1 hy
  have hl := (List.getElem?_eq_some_iff.1 hj).1
  rw [List.length_append] at hl
  exact h.done j y (by omega) hj r hr
end Go.Proofs.Ytbppkflgokfjhaa
namespace Go.Proofs.Ytbppkflgokfjhaa
open Go.RowKit
theorem wp_scope_meets {P : Program} {a : Act} {w : World} {Q : Exit → Act → World → Prop} {c R : Code} (l : Nat) (J : Act → World → Prop) (μ : Act → World → Nat) (hf : findLabel c l = some (.seq .skip R))
    (pass : ∀ a w, J a w → R.wp P (Exit.jump l (fun a' w' => J a' w' ∧ μ a' w' < μ a w) Q) a w)
    (first : (∀ a w, J a w → R.wp P (Exit.jump l J Q) a w) → c.wp P (Exit.jump l J Q) a w) : (Code.scope c).wp P Q a w :=
  wp_scope_jumps l J μ hf (first fun a w hj => wp_mono (pass a w hj) fun e a w h => by
    cases e with
    | «goto» l' => exact ⟨h.1, h.2.1⟩
    | _ => exact h) fun a w hj => wp_seq (wp_skip (pass a w hj))
end Go.Proofs.Ytbppkflgokfjhaa
namespace Go.Proofs.Ytbppkflgokfjhaa
open Go.RowKit
theorem OwnR.block {α : Type} {E : TypeId} {n : Nat} {f : α → List Value} {base : Nat} {w w' : World} {v : Value} {L : List α} (h : OwnR E n f base w v L) (hb : ∀ k, v.ownBlock = some k → w'.heap[k]? = w.heap[k]?) : OwnR E n f base w' v L := by
  obtain ⟨h1, h2⟩ := h
  refine ⟨h1, ?_⟩
  rcases h2 with h2 | ⟨g, cap, cur, hv, hbs, hg, rest⟩
  · exact .inl h2
  · exact .inr ⟨g, cap, cur, hv, hbs, (hb g (by rw [hv]; rfl)).trans hg, rest⟩
end Go.Proofs.Ytbppkflgokfjhaa
namespace Go.Proofs.Ytbppkflgokfjhaa
open Go.RowKit
def HgQ (w : World) (L : List Lk) (M : Int → Bool) (on : List Int) (X : Nat) (e : Ending) (w' : World) : Prop := ∃ (found : List Int) (M' : Int → Bool) (O : Option Addr) (c : Nat), e = .returned (.slice O found.length c) ∧ found.length ≤ c ∧ HgI L M on found M' ∧ (∀ n, n ∈ found ↔ Hng (unm L M) on n) ∧ MkG w' X M' ∧ RowH w' (fun h => w.heap.size ≤ h) O found ∧ ButG X w w'
def vIn : Value → Int | .int _ q => q | _ => 0
theorem kb_ok {n : Int} (h : okN n) : KB n := by unfold okN at h; unfold KB; omega
theorem ed_ok {L : List Lk} (hk : OkK L) {n y : Int} (h : Ed L n y) : okN n ∧ okN y := by
  obtain ⟨x, hx, rfl, hy⟩ := h
  exact ⟨(hk x hx).1, (hk x hx).2 y hy⟩
theorem own_hos {v : Value} {base X : Nat} {w : World} {L : List Int} (h : OwnR 3 1 inW base w v L) (hX : X < base) : ∀ q, v.ownBlock = some q → q ≠ X ∧ base ≤ q := fun q hq => by
  have := (World.ownsRow.lt h q hq).1
  exact ⟨by omega, this⟩
set_option maxHeartbeats 16000000 in
set_option maxRecDepth 10000 in
theorem hanging_none (L : List Lk) (M : Int → Bool) (w : World) (g X : Nat) (hM : MkG w X M) (O : Option Addr) (co : Nat) :
    Calls Try.prog 28 #[.pointer (some ⟨g, 0, none⟩), .pointer (some ⟨X, 0, none⟩), .slice O 0 co] w fun e w' => HgQ w L M [] X e w' := by
  have HM := Lib.hid hM
  have HC := Lib.hid (pclone_any [] O co w (fun _ => True) (.inl rfl) (by simp))
  rw [List.length_nil] at HC
  clear hM
  go_enter Try.func28, Try.ntmps28
  go_wp2_with fail
  go_step3
  go_wp2_with fail
  refine HC.out.mono ?_; rintro e w1 ⟨P, c, rfl, _, hb⟩
  have HB := Lib.hid hb
  clear hb HC
  have hend : ∀ O' c', HgQ w L M [] X (.returned (.slice O' 0 c')) w1 := fun O' c' => ⟨[], M, O', c', rfl, Nat.zero_le _, HgI.start L M [], fun n => by
    constructor
    · intro h; cases h
    · intro h
      refine absurd (hng_ind (P := fun _ => False) (fun x r _ hr => by cases hr) (fun x r _ _ ih => ih) h) id, HM.out.below HB.out, .inl rfl, ButG.of_below HB.out⟩
  have HE := Lib.hid hend
  clear hend
  go_wp2_with fail
  go_step3
  cases P with
  | none =>
    go_wp2_with fail
    go_ret
    exact HE.out _ _
  | some a =>
    go_wp2_with fail
    go_ret
    exact HE.out _ _
set_option maxHeartbeats 32000000 in
set_option maxRecDepth 10000 in
theorem hanging_some (w0 w : World) (g : Nat) (L : List Lk) (hP : GP12 w0 g L) (hb0 : Below w0.heap.size w0 w) (hk : OkK L) (hL : L.length ≤ 60) (X : Nat) (hX : w0.heap.size ≤ X) (M : Int → Bool) (hM : MkG w X M) (on : List Int) (O : Option Addr) (co : Nat) {Q : Nat → Prop} (ho : RowI w Q O on) (hol : on.length ≤ 60) (hkb : ∀ x ∈ on, KB x) (hne : on ≠ []) :
    Calls Try.prog 28 #[.pointer (some ⟨g, 0, none⟩), .pointer (some ⟨X, 0, none⟩), .slice O on.length co] w fun e w' => HgQ w L M on X e w' := by
  obtain ⟨i0, hi0, hz0, hz1, hz2⟩ := info_parts gint_info
  obtain ⟨b1, b2, n1, n2, f1, f2, R1, R2, hG⟩ := hP
  have HG := Lib.hid hG
  have HB0 := Lib.hid hb0
  have HMl := Lib.hid hM.lt
  have HX := Lib.hid hX
  have HK := Lib.hid hk
  have HL := Lib.hid hL
  have HKb := Lib.hid hkb
  have HM := Lib.hid hM
  have HC := Lib.hid (pclone_any on O co w Q ho (by omega))
  have hpos : 0 < on.length := List.length_pos_iff.2 hne
  have HPos := Lib.hid hpos
  have HNe := Lib.hid hne
  have HR2l := Lib.hid (fun y => Nat.le_trans (hG.ok.l2 y) hL)
  have HGet := Lib.hid (fun (W : World) (hb : Below w0.heap.size w0 W) (x : Int) (hx : KB x) => hG.readers hb hx)
  have HEd := Lib.hid (fun (y r : Int) => hG.ok.r2 y r)
  clear hG hb0 hM ho hkb hk hX hL hne
  go_enter Try.func28, Try.ntmps28
  go_wp2_with fail
  refine wp_scope_meets 0 (fun a' wr => ∃ (i : Nat) (found : List Int) (M' : Int → Bool) (v7 u10 u11 u12 u13 u14 u15 u16 u17 u18 u19 u20 u21 u22 u23 u24 u25 u26 u27 u28 u29 u30 u31 u32 u33 u34 u35 u36 u37 u38 u39 u40 u41 u42 u43 u44 u45 u46 u47 u48 u49 u50 u51 : Value), a' = { tmps := #[.pointer (some ⟨g, 0, none⟩), .pointer (some ⟨X, 0, none⟩), .slice O on.length co, undef, undef, undef, .slice none 0 0, v7, .int .i64 (i : Int), undef, u10, u11, u12, u13, u14, u15, u16, u17, u18, u19, u20, u21, u22, u23, u24, u25, u26, u27, u28, u29, u30, u31, u32, u33, u34, u35, u36, u37, u38, u39, u40, u41, u42, u43, u44, u45, u46, u47, u48, u49, u50, u51], defers := [] } ∧ Hid (HgS L M on i found M') ∧ Hid (OwnR 3 1 inW w.heap.size wr v7 (on ++ found)) ∧ Hid (MkG wr X M') ∧ Hid (ButG X w wr)) (fun a' _ => on.length + 61 - (vIn (a'.tmps.getD 8 undef)).toNat) rfl ?_ ?_
  · rintro a' wr ⟨i, found, M', v7, u10, u11, u12, u13, u14, u15, u16, u17, u18, u19, u20, u21, u22, u23, u24, u25, u26, u27, u28, u29, u30, u31, u32, u33, u34, u35, u36, u37, u38, u39, u40, u41, u42, u43, u44, u45, u46, u47, u48, u49, u50, u51, rfl, HS, HO, HMk, HBt⟩
    obtain ⟨A7, c7, rfl, hc7, hat7⟩ := OwnR.shape (f := inW) (n := 1) (fun _ => rfl) HO.out
    have hne7 : on ++ found ≠ [] := by have := HNe.out; simp [this]
    obtain ⟨g7, o7, rfl, hat8⟩ := hat7 hne7
    clear hne7
    obtain ⟨N, hN⟩ : ∃ N, (on ++ found).length = N := ⟨_, rfl⟩
    have hN2 : on.length + found.length = N := by rw [← hN, List.length_append]
    have hfl : found.length ≤ 60 := Nat.le_trans HS.out.ii.len HL.out
    have hil := HS.out.le
    rw [hN] at hc7 HO ⊢
    have HN := Lib.hid hN
    have HN2 := Lib.hid hN2
    have HAt := Lib.hid hat8
    clear hat7 hat8 hN
    by_cases hlt : i < N
    · obtain ⟨y, hy⟩ : ∃ y, (on ++ found)[i]? = some y := ⟨_, List.getElem?_eq_getElem (by rw [HN.out]; exact hlt)⟩
      have hd : ((i : Int) == (N : Int)) = false := by simp; omega
      have hkb : KB y := by
        rcases List.mem_append.1 (List.mem_of_getElem? hy) with q | q
        · exact HKb.out y q
        · obtain ⟨x, hx, e⟩ := (HS.out.ii.un q).1
          rw [← e]
          exact kb_ok (HK.out x hx).1
      have c7y : wr.cell? ⟨g7, o7 + i, none⟩ = some (.int .i64 y) := by have := HAt.out i y hy 0 _ rfl; simpa using this
      have HT := Lib.hid (HS.out.enter hy (R2 y))
      have HLk := Lib.hid (fun (W : World) (hb : Below wr.heap.size wr W) => HGet.out W (HB0.out.trans ((HBt.out.below HX.out HB0.out.size).trans (hb.mono (Nat.le_trans HB0.out.size HBt.out.size)))) y hkb)
      have HYs := Lib.hid (HEd.out y)
      have hRl := HR2l.out y
      have HCy := Lib.hid (fun (W : World) (hb : Below wr.heap.size wr W) => (show W.cell? ⟨g7, o7 + i, none⟩ = some (.int .i64 y) from keep_cell hb c7y))
      have hI : (i : Int) < (N : Int) := by omega
      have hJ : (0 : Int) ≤ (i : Int) := by omega
      have HRR := Lib.hid (fun (W : World) (hb : ButG X w W) => ((HGet.out w HB0.out y hkb).2.mono (Q := fun h => h ≠ X) (fun h hh _ => by have := HX.out; omega)).kept hb.kept)
      clear hy hkb c7y HS
      generalize ((f2 y).getD sl0).addr = A2 at *
      generalize ((f2 y).getD sl0).cap = c2 at *
      generalize R2 y = RR at *
      go_wp2_with fail
      go_region_held3 (fun w' => w'.cell? ⟨g, 1, none⟩ = some (.map (some b2)) ∧ w'.cell? ⟨g7, o7 + i, none⟩ = some (.int .i64 y))
        (first | (exact ⟨(HLk.out _ (by with_reducible repeat' (first | exact Below.refl _ _ | refine Below.drew ?_))).1.1, HCy.out _ (by with_reducible repeat' (first | exact Below.refl _ _ | refine Below.drew ?_))⟩) | fail)
        (first
        | (refine upon_run (HLk.out _ (by with_reducible repeat' (first | exact Below.refl _ _ | refine Below.drew ?_))).1.2 ?_)
        | fail)
      have hbd : Below wr.heap.size wr wr.drew := Below.drew (Below.refl _ _)
      have HO1 := Lib.hid (HO.out.below hbd)
      have HMk1 := Lib.hid (HMk.out.below hbd)
      have HBt1 := Lib.hid (HBt.out.trans (ButG.of_below hbd))
      clear hbd HO HMk HBt HLk HCy HAt hd hI hJ
      generalize wr.drew = wd at *
      go_wp2_with fail
      go_loopw [7, 31] (fun v7 vk wx => ∃ (k : Nat) (fd : List Int) (M2 : Int → Bool), k ≤ RR.length ∧ vk = .int .i64 (k : Int) ∧ Hid (HgT L M on i k y RR fd M2) ∧ Hid (OwnR 3 1 inW w.heap.size wx v7 (on ++ fd)) ∧ Hid (MkG wx X M2) ∧ Hid (ButG X w wx)) (fun _ vk _ => RR.length - (vIn vk).toNat)
      case atStart => exact ⟨0, found, M', Nat.zero_le _, rfl, HT, HO1, HMk1, HBt1⟩
      case round =>
        clear HT HO1 HMk1 HBt1
        obtain ⟨k, fd, M2, hk, rfl, HT, HO, HMk, HBt⟩ := hrel
        by_cases hkl : k < RR.length
        · obtain ⟨r, hr⟩ : ∃ r, RR[k]? = some r := ⟨_, List.getElem?_eq_getElem hkl⟩
          have hed := (HYs.out r).1 (List.mem_of_getElem? hr)
          have hor := (ed_ok HK.out hed).1
          obtain ⟨j, hj⟩ : ∃ j : Nat, r = (j : Int) := ⟨r.toNat, by unfold okN at hor; omega⟩
          have hj1 : j < 1024 := by unfold okN at hor; omega
          subst hj
          rcases HRR.out wr HBt.out with hnil | ⟨gr, orr, rfl, _, hgl, hcr⟩
          · rw [hnil] at hkl; exact absurd hkl (Nat.not_lt_zero _)
          have c9 := hcr k (j : Int) hr
          obtain ⟨m0, m1⟩ := HMk.out.cell hj1
          have hI : (k : Int) < (RR.length : Int) := by omega
          have hJ : (0 : Int) ≤ (k : Int) := by omega
          have hfd : fd.length ≤ 60 := Nat.le_trans HT.out.ii.len HL.out
          have hbs := HBt.out.size
          have hXs := HMl.out
          have HOs := Lib.hid (own_hos HO.out HMl.out)
          cases hm : M2 (j : Int) with
          | true =>
            have HT2 := Lib.hid (HT.out.skip hr hm)
            rw [hm] at m0
            clear hcr hed hor hr
            go_wp2_with fail
            go_roundw
            case rel => exact ⟨k + 1, fd, M2, by omega, by go_num, HT2, HO, HMk, HBt⟩
            case measure => simp [vIn]; omega
          | false =>
            have HT2 := Lib.hid (HT.out.add hr hm hed)
            rw [hm] at m0
            have hM9 : MkG (wr.setCell ⟨X, j, none⟩ (.bool true)) X (updB M2 (j : Int)) := HMk.out.set (enc := Value.bool) (j := j) true
            have HM9 := Lib.hid hM9
            have HO9 := Lib.hid (OwnR.block HO.out (w' := wr.setCell ⟨X, j, none⟩ (.bool true)) fun q hq => Below.heap_setCell _ _ _ q (fun e => (HOs.out q hq).1 e))
            have HB9 := Lib.hid (HBt.out.setR j (.bool true))
            obtain ⟨Nf, hNf⟩ : ∃ Nf, (on ++ fd).length = Nf := ⟨_, rfl⟩
            have HNf := Lib.hid hNf
            rw [List.length_append] at hNf
            have hs9 : (wr.setCell ⟨X, j, none⟩ (.bool true)).heap.size = wr.heap.size := by simp
            have HS9 := Lib.hid hs9
            clear hcr hed hor hr HO HMk HBt hM9 hs9 HT
            go_wp2_with (at_builtin; refine of_stop ?_)
            refine stop_of ?_
            clear c9 m0 m1
            generalize wr.setCell ⟨X, j, none⟩ (.bool true) = w9 at *
            have b0 : Below w9.heap.size w9 (w9.alloc (.cells #[.int .i64 (j : Int)] 3)) := (Below.refl _ _).alloc (Nat.le_refl _) _
            refine wpList_append_rows (f := inW) (n := 1) (E := 3) (nb := 8) (X := on ++ fd) (base := w.heap.size) rfl _ _ rfl rfl (OwnR.below HO9.out b0) (L2 := [(j : Int)]) rfl (by rw [← HS9.out]; exact one_row w9 (j : Int)) (by simp) (N := Nf + 1) (by rw [HNf.out]; rfl) (Z := on ++ (fd ++ [(j : Int)])) (by rw [List.append_assoc]) Try.underlying23 hi0 hz0 hz1 hz2 rfl (by decide) (by decide) (fun _ => rfl) inW_one (by omega) (by simp; have := HB9.out.size; omega) ?_
            intro g4 k4 w4 ho4 hg4 hat4 hl4
            have hBt4 : ButG X w w4 := (HB9.out.alloc _).grown hg4 fun q hq => .inr (HOs.out q hq).2
            have HO4 := Lib.hid ho4
            have HM4 : Hid (MkG w4 X (updB M2 (j : Int))) := Lib.hid ((HM9.out.below b0).world (hg4.block X (HM9.out.below b0).lt fun e => (HOs.out X e.symm).1 rfl))
            have HB4 := Lib.hid hBt4
            clear ho4 hg4 hat4 hl4 b0 hBt4
            go_wp2_with fail
            go_roundw
            case rel => exact ⟨k + 1, fd ++ [(j : Int)], updB M2 (j : Int), by omega, by go_num, HT2, HO4, HM4, HB4⟩
            case measure => simp [vIn]; omega
        · have hkk : k = RR.length := by omega
          subst hkk
          have HS2 := Lib.hid (HT.out.leave fun r h => (HYs.out r).2 h)
          have w64 : IntKind.i64.wrap ((i : Int) + 1) = (i : Int) + 1 := by rw [IntKind.wrap_i64]; omega
          clear HT
          go_wp2_with fail
          go_step3
          refine ⟨rfl, ⟨i + 1, fd, M2, _, _, _, _, _, _, _, _, _, _, _, _, _, _, _, _, _, _, _, _, _, _, _, _, _, _, _, _, _, _, _, _, _, _, _, _, _, _, _, _, _, _, _, rfl, HS2, HO, HMk, HBt⟩, ?_⟩
          simp [vIn]; omega
    · have hd : ((i : Int) == (N : Int)) = true := by simp; omega
      have hiN : i = on.length + found.length := by omega
      have HF : Hid (∀ O' c, (O' = some ⟨g7, o7 + on.length, none⟩ ∨ N - on.length = 0) → N - on.length ≤ c → HgQ w L M on X (.returned (.slice O' (N - on.length) c)) wr) := Lib.hid fun O' c hor hc => by
        have e : N - on.length = found.length := by omega
        rw [e] at hor hc ⊢
        refine ⟨found, M', O', c, rfl, hc, HS.out.ii, HS.out.all hiN, HMk.out, ?_, HBt.out⟩
        rcases hor with rfl | hor
        · by_cases hf : found = []
          · exact .inl hf
          · have hH : RowH wr (fun h => w.heap.size ≤ h) (some ⟨g7, o7, none⟩) (on ++ found) := by
              obtain ⟨A', c', e', _, _, hr⟩ := own_rowH HO.out
              injection e' with e1 e2 e3
              rw [e1]; exact hr
            rcases hH with h | ⟨g', o', e', hp, hl, hh⟩
            · exact absurd (List.append_eq_nil_iff.1 h).2 hf
            · cases e'
              exact .inr ⟨g7, o7 + on.length, rfl, hp, hl, holds_drop hh⟩
        · exact .inl (List.length_eq_zero_iff.1 hor)
      clear HS HMk HO HBt HAt
      go_wp2_with fail
      all_goals (simp only [Exit.jump]; go_ret; refine HF.out _ _ ?_ ?_ <;> first | omega | (left; rfl) | (right; omega) | trace_state)
  · intro HJ
    go_wp2_with fail
    refine HC.out.mono ?_; rintro e w1 ⟨P, c, rfl, hcase, hb⟩
    have HB1 := Lib.hid hb
    have HO1 : Hid (OwnR 3 1 inW w.heap.size w1 (.slice P on.length c) (on ++ [])) := Lib.hid (by
      rcases hcase with h | ⟨g2, rfl, _, _, h⟩
      · exact absurd h HNe.out
      · rw [List.append_nil]; exact h)
    clear hcase hb
    go_wp2_with fail
    go_step3
    rename_i K1 hK1
    exact hK1 _ _ (HJ _ _ ⟨0, [], M, _, _, _, _, _, _, _, _, _, _, _, _, _, _, _, _, _, _, _, _, _, _, _, _, _, _, _, _, _, _, _, _, _, _, _, _, _, _, _, _, _, _, _, rfl, Lib.hid (HgS.start L M on), HO1, Lib.hid (HM.out.below HB1.out), Lib.hid (ButG.of_below HB1.out)⟩)
end Go.Proofs.Ytbppkflgokfjhaa
