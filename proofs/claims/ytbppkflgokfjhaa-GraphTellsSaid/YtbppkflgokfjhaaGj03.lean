/- Texts joined: GpA, NdJk, GrD, GmA, GmB, GpB, NfO. -/
import Derived.Test.YtbppkflgokfjhaaGj01
import Derived.Test.YtbppkflgokfjhaaGj02
import Derived.Maps.OwnSet
import Derived.Maps.Range
import Derived.Deep.DeepHandedRow
import Derived.Lib.SlKeysI
import Derived.Lib.SliceRun
set_option linter.all false
namespace Go.Proofs.Ytbppkflgokfjhaa
def Ed (L : List Lk) (n y : Int) : Prop := ∃ x ∈ L, x.at_ = n ∧ y ∈ x.rd
theorem hng_ed {L : List Lk} {on : List Int} {n : Int} : Hng L on n ↔ ∃ r, Ed L n r ∧ (r ∈ on ∨ Hng L on r) := by
  rw [hng_iff]
  constructor
  · rintro ⟨x, hx, e, r, hr, h⟩
    exact ⟨r, ⟨x, hx, e, hr⟩, h⟩
  · rintro ⟨r, ⟨x, hx, e, hr⟩, h⟩
    exact ⟨x, hx, e, r, hr, h⟩
theorem Ed.now {L : List Lk} {on : List Int} {n y : Int} (h : Ed L n y) (hy : y ∈ on) : Hng L on n := hng_ed.2 ⟨y, h, .inl hy⟩
theorem Ed.one {L : List Lk} {n y : Int} (h : Ed L n y) : Hng L [y] n := h.now (List.mem_singleton.2 rfl)
theorem Ed.more {L : List Lk} {on : List Int} {n y : Int} (h : Ed L n y) (hy : Hng L on y) : Hng L on n := hng_ed.2 ⟨y, h, .inr hy⟩
theorem Ed.node {L : List Lk} {n y : Int} (h : Ed L n y) : isN L n := by
  obtain ⟨x, hx, e, _⟩ := h
  exact ⟨x, hx, e⟩
theorem hng_ind {L : List Lk} {on : List Int} {P : Int → Prop} (h0 : ∀ x r, Ed L x r → r ∈ on → P x) (h1 : ∀ x r, Ed L x r → Hng L on r → P r → P x) {n : Int} (h : Hng L on n) : P n := by
  induction h with
  | now x hx r hr ho => exact h0 _ r ⟨x, hx, rfl, hr⟩ ho
  | more x hx r hr h ih => exact h1 _ r ⟨x, hx, rfl, hr⟩ h ih
def unm (L : List Lk) (M : Int → Bool) : List Lk := L.filter fun x => !M x.at_
theorem unm_mem {L : List Lk} {M : Int → Bool} {x : Lk} : x ∈ unm L M ↔ x ∈ L ∧ M x.at_ = false := by
  unfold unm
  rw [List.mem_filter]
  cases M x.at_ <;> simp
theorem unm_none (L : List Lk) : unm L (fun _ => false) = L := by
  unfold unm
  simp
theorem unm_len (L : List Lk) (M : Int → Bool) : (unm L M).length ≤ L.length := List.length_filter_le _ _
theorem ed_unm {L : List Lk} {M : Int → Bool} {n y : Int} : Ed (unm L M) n y ↔ Ed L n y ∧ M n = false := by
  constructor
  · rintro ⟨x, hx, rfl, hy⟩
    obtain ⟨h1, h2⟩ := unm_mem.1 hx
    exact ⟨⟨x, h1, rfl, hy⟩, h2⟩
  · rintro ⟨⟨x, hx, rfl, hy⟩, h⟩
    exact ⟨x, unm_mem.2 ⟨hx, h⟩, rfl, hy⟩
theorem isN_unm {L : List Lk} {M : Int → Bool} {n : Int} (h : isN (unm L M) n) : isN L n ∧ M n = false := by
  obtain ⟨x, hx, rfl⟩ := h
  obtain ⟨h1, h2⟩ := unm_mem.1 hx
  exact ⟨⟨x, h1, rfl⟩, h2⟩
structure HgI (L : List Lk) (M : Int → Bool) (on found : List Int) (M' : Int → Bool) : Prop where
  nd : found.Nodup
  hng : ∀ n ∈ found, Hng (unm L M) on n
  mark : ∀ n, M' n = (M n || decide (n ∈ found))
theorem HgI.start (L : List Lk) (M : Int → Bool) (on : List Int) : HgI L M on [] M := ⟨List.nodup_nil, fun n h => (by cases h), fun n => by simp⟩
theorem HgI.len {L : List Lk} {M M' : Int → Bool} {on found : List Int} (h : HgI L M on found M') : found.length ≤ L.length := Nat.le_trans (found_len (L := unm L M) h.nd fun n hn => hng_node (h.hng n hn)) (unm_len L M)
theorem HgI.un {L : List Lk} {M M' : Int → Bool} {on found : List Int} (h : HgI L M on found M') {n : Int} (hn : n ∈ found) : isN L n ∧ M n = false := isN_unm (hng_node (h.hng n hn))
def updB (M : Int → Bool) (n : Int) : Int → Bool := fun y => if y = n then true else M y
theorem HgI.step {L : List Lk} {M M' : Int → Bool} {on found : List Int} (h : HgI L M on found M') {r y : Int} (hr : Ed L r y) (hy : y ∈ on ++ found) (hm : M' r = false) : HgI L M on (found ++ [r]) (updB M' r) := by
  have h1 := h.mark r
  rw [hm] at h1
  obtain ⟨e1, e2⟩ := Bool.or_eq_false_iff.1 h1.symm
  refine ⟨List.nodup_append.2 ⟨h.nd, by simp, fun a ha b hb e => ?_⟩, fun n hn => ?_, fun n => ?_⟩
  · obtain rfl : b = r := by simpa using hb
    subst e
    exact absurd ha (by simpa using e2)
  · rcases List.mem_append.1 hn with q | q
    · exact h.hng n q
    · obtain rfl : n = r := by simpa using q
      have he : Ed (unm L M) n y := ed_unm.2 ⟨hr, e1⟩
      rcases List.mem_append.1 hy with c | c
      · exact he.now c
      · exact he.more (h.hng y c)
  · unfold updB
    by_cases e : n = r
    · subst e
      simp
    · rw [if_neg e, h.mark n]
      simp [e]
theorem HgI.done {L : List Lk} {M M' : Int → Bool} {on found : List Int} (h : HgI L M on found M') (hc : ∀ y ∈ on ++ found, ∀ r, Ed L r y → M' r = true) (n : Int) : n ∈ found ↔ Hng (unm L M) on n := by
  refine hang_done h.hng (fun x hx hr => ?_) n
  obtain ⟨r, hr, hor⟩ := hr
  obtain ⟨h1, h2⟩ := unm_mem.1 hx
  have := hc r (by rcases hor with q | q; exact List.mem_append.2 (.inl q); exact List.mem_append.2 (.inr q)) x.at_ ⟨x, h1, rfl, hr⟩
  rw [h.mark, h2, Bool.false_or] at this
  simpa using this
/- an order of numbers -/
def LdT (L : List Lk) (x z : Int) : Prop := x = z ∨ Hng L [z] x
theorem LdT.trans {L : List Lk} {x y z : Int} (h : LdT L x y) (h2 : LdT L y z) : LdT L x z := by
  rcases h with rfl | h
  · exact h2
  · rcases h2 with rfl | h2
    · exact .inr h
    · exact .inr (hng_trans h h2)
theorem LdT.hng {L : List Lk} {x y z : Int} (h : LdT L x y) (h2 : Hng L [z] y) : Hng L [z] x := by
  rcases h with rfl | h
  · exact h2
  · exact hng_trans h h2
theorem hng_ldt {L : List Lk} {x y z : Int} (h : Hng L [y] x) (h2 : LdT L y z) : Hng L [z] x := by
  rcases h2 with rfl | h2
  · exact h
  · exact hng_trans h h2
def FinL (L : List Lk) (l : List Int) : Prop := ∀ p x q, l = p ++ x :: q → ∀ y, Ed L x y → LdT L y x ∨ ∀ z, LdT L y z → z ∈ p
def Sc (L : List Lk) (x m : Int) : Prop := Hng L [m] x ∧ Hng L [x] m
theorem Sc.trans {L : List Lk} {x y z : Int} (h : Sc L x y) (h2 : Sc L y z) : Sc L x z := ⟨hng_trans h.1 h2.1, hng_trans h2.2 h.2⟩
theorem Sc.symm {L : List Lk} {x y : Int} (h : Sc L x y) : Sc L y x := ⟨h.2, h.1⟩
def MetK (L : List Lk) (l2 : List Int) (M : Int → Bool) : Prop := ∀ x, M x = true ↔ x ∈ l2 ∨ ∃ m ∈ l2, Sc L x m
theorem kos_step {L : List Lk} {l l1 l2 : List Int} {n : Int} {M : Int → Bool} (hF : FinL L l) (hall : ∀ x, isN L x → x ∈ l) (hd : l.Nodup) (hl : l = l1 ++ n :: l2) (hM : MetK L l2 M) (x : Int) : Hng (unm L M) [n] x ↔ M x = false ∧ Sc L x n := by
  have hno : ∀ v, M v = false → v ∉ l2 := fun v hv hm => by
    have := (hM v).2 (.inl hm)
    rw [hv] at this
    cases this
  constructor
  · intro h
    have key : ∀ x y, Ed L x y → M x = false → LdT L y n → (y = n ∨ Sc L y n) → Sc L x n := fun x y he hx hy hs => by
      have hyn : LdT L n y := by
        rcases hs with rfl | hs
        · exact .inl rfl
        · exact .inr hs.2
      have h1 : Hng L [n] x := hng_ldt he.one hy
      refine ⟨h1, ?_⟩
      have hxl := hall x he.node
      rw [hl] at hxl
      have hx2 := hno x hx
      rcases List.mem_append.1 hxl with q | q
      · obtain ⟨p, r, hp⟩ := List.append_of_mem q
        rcases hF p x (r ++ n :: l2) (by rw [hl, hp]; simp) y he with c | c
        · rcases hyn.trans c with rfl | c2
          · exact h1
          · exact c2
        · have hn := c n hy
          rw [hl, hp] at hd
          rw [List.append_assoc] at hd
          exact absurd rfl ((List.nodup_append.1 hd).2.2 n hn n (by simp))
      · rcases List.mem_cons.1 q with rfl | q
        · exact h1
        · exact absurd q hx2
    refine hng_ind (P := fun x => M x = false ∧ Sc L x n) (fun x r he hr => ?_) (fun x r he _ ih => ?_) h
    · obtain ⟨h1, h2⟩ := ed_unm.1 he
      obtain rfl : r = n := by simpa using hr
      exact ⟨h2, key x r h1 h2 (.inl rfl) (.inl rfl)⟩
    · obtain ⟨h1, h2⟩ := ed_unm.1 he
      exact ⟨h2, key x r h1 h2 (.inr ih.2.1) (.inr ih.2)⟩
  · rintro ⟨h1, h2, h3⟩
    refine hng_ind (P := fun v => Hng L [v] n → M v = false → Hng (unm L M) [n] v) (fun v r he hr _ hv => ?_) (fun v r he hr ih hv2 hv => ?_) h2 h3 h1
    · exact (ed_unm.2 ⟨he, hv⟩).now hr
    · have hrn : Hng L [r] n := hng_trans hv2 he.one
      refine (ed_unm.2 ⟨he, hv⟩).more (ih hrn ?_)
      cases e : M r with
      | false => rfl
      | true =>
        have hvr : Sc L v r := ⟨he.one, hng_trans hr hv2⟩
        have : M v = true := (hM v).2 (by
          rcases (hM r).1 e with q | ⟨m, hm, q⟩
          · exact .inr ⟨r, q, hvr⟩
          · exact .inr ⟨m, hm, hvr.trans q⟩)
        rw [hv] at this
        cases this
structure Kos (L : List Lk) (l2 C : List Int) (M : Int → Bool) : Prop where
  met : MetK L l2 M
  nd : C.Nodup
  mem : ∀ x, x ∈ C ↔ ∃ m ∈ l2, Sc L x m
theorem Kos.start (L : List Lk) : Kos L [] [] (fun _ => false) := ⟨fun x => by simp, List.nodup_nil, fun x => by simp⟩
theorem Kos.step {L : List Lk} {l l1 l2 C found : List Int} {n : Int} {M M' : Int → Bool} (h : Kos L l2 C M) (hF : FinL L l) (hall : ∀ x, isN L x → x ∈ l) (hd : l.Nodup) (hl : l = l1 ++ n :: l2) (hI : HgI L M [n] found M') (hf : ∀ x, x ∈ found ↔ Hng (unm L M) [n] x) : Kos L (n :: l2) (C ++ found) (updB M' n) := by
  have hk := kos_step hF hall hd hl h.met
  have hfd : ∀ x, x ∈ found ↔ M x = false ∧ Sc L x n := fun x => (hf x).trans (hk x)
  have hC : ∀ x, x ∈ C → M x = true := fun x hx => (h.met x).2 (.inr ((h.mem x).1 hx))
  refine ⟨fun x => ?_, List.nodup_append.2 ⟨h.nd, hI.nd, fun a ha b hb e => ?_⟩, fun x => ?_⟩
  · unfold updB
    by_cases e : x = n
    · rw [if_pos e]
      exact ⟨fun _ => .inl (by rw [e]; exact List.mem_cons_self), fun _ => rfl⟩
    · rw [if_neg e, hI.mark, Bool.or_eq_true, decide_eq_true_iff, h.met x, hfd x]
      constructor
      · rintro ((q | ⟨m, hm, q⟩) | q)
        · exact .inl (List.mem_cons_of_mem _ q)
        · exact .inr ⟨m, List.mem_cons_of_mem _ hm, q⟩
        · exact .inr ⟨n, List.mem_cons_self, q.2⟩
      · rintro (q | ⟨m, hm, q⟩)
        · rcases List.mem_cons.1 q with q | q
          · exact absurd q e
          · exact .inl (.inl q)
        · rcases List.mem_cons.1 hm with rfl | hm
          · cases hx : M x with
            | false => exact .inr ⟨rfl, q⟩
            | true => exact .inl ((h.met x).1 hx)
          · exact .inl (.inr ⟨m, hm, q⟩)
  · subst e
    have h1 := hC a ha
    rw [((hfd a).1 hb).1] at h1
    cases h1
  · rw [List.mem_append, h.mem x, hfd x]
    constructor
    · rintro (⟨m, hm, q⟩ | q)
      · exact ⟨m, List.mem_cons_of_mem _ hm, q⟩
      · exact ⟨n, List.mem_cons_self, q.2⟩
    · rintro ⟨m, hm, q⟩
      rcases List.mem_cons.1 hm with rfl | hm
      · cases hx : M x with
        | false => exact .inr ⟨rfl, q⟩
        | true =>
          rcases (h.met x).1 hx with c | c
          · exact .inl ⟨x, c, q.trans q.symm⟩
          · exact .inl c
      · exact .inl ⟨m, hm, q⟩
theorem Kos.all {L : List Lk} {l C : List Int} {M : Int → Bool} (h : Kos L l C M) (hall : ∀ x, isN L x → x ∈ l) (x : Int) : x ∈ C ↔ cycN L x := by
  rw [h.mem x]
  constructor
  · rintro ⟨m, _, q⟩
    exact hng_trans q.1 q.2
  · intro q
    exact ⟨x, hall x (hng_node q), q, q⟩
end Go.Proofs.Ytbppkflgokfjhaa
namespace Go.Proofs.Ytbppkflgokfjhaa
open Go.RowKit
theorem inW_one : ∀ q : Int, ∀ u ∈ inW q, u.oneCell' = true := by
  intro q u hu
  simp only [inW, List.mem_cons, List.not_mem_nil, or_false] at hu
  subst hu; rfl
end Go.Proofs.Ytbppkflgokfjhaa
namespace Go.Proofs.Ytbppkflgokfjhaa
open Go.RowKit
theorem gint_info : (Try.prog.info? 3).map (fun i => (i.zero, i.size, i.bytes)) = some (some (.int .i64 0), 1, 8) := by kernel_rfl
def rdB (rd on : List Int) : Bool := rd.any fun r => decide (r ∈ on)
theorem rdB_iff {rd on : List Int} : rdB rd on = true ↔ ∃ r ∈ rd, r ∈ on := by
  unfold rdB
  rw [List.any_eq_true]
  constructor
  · rintro ⟨r, h1, h2⟩; exact ⟨r, h1, by simpa using h2⟩
  · rintro ⟨r, h1, h2⟩; exact ⟨r, h1, by simpa using h2⟩
set_option maxHeartbeats 4000000 in
set_option maxRecDepth 10000 in
theorem greads_any (q : LkM) (on : List Int) (O : Option Addr) (co : Nat) (w : World) {P Q : Nat → Prop} (hq : RowI w P q.RA q.rd) (ho : RowI w Q O on) (hql : q.rd.length ≤ 1000000) (hol : on.length ≤ 1000000) :
    Calls Try.prog 36 #[.agg #[.int .i64 q.at_, .slice q.RA q.rd.length q.rc], .slice O on.length co] w fun e w' => e = .returned (.bool (rdB q.rd on)) ∧ Below w.heap.size w w' := by
  obtain ⟨an, rd, RA, rc⟩ := q
  have hba : Below w.heap.size w (w.alloc (.cells #[.int .i64 an, .slice RA rd.length rc] 51)) := (Below.refl _ _).alloc (Nat.le_refl _) _
  have HBa := Lib.hid hba
  have HQ := Lib.hid (hq.below hba)
  have HHs := Lib.hid (fun (n : Int) => ghas_any on O co (w.alloc (.cells #[.int .i64 an, .slice RA rd.length rc] 51)) (ho.below hba) hol n)
  have hz : w.heap.size < (w.alloc (.cells #[.int .i64 an, .slice RA rd.length rc] 51)).heap.size := by simp
  have z1 : (w.alloc (.cells #[.int .i64 an, .slice RA rd.length rc] 51)).cell? ⟨w.heap.size, 1, none⟩ = some (.slice RA rd.length rc) := by rw [Lib.cell_of_heap (heap_alloc_new w _)]; rfl
  clear hba hq ho
  go_enter Try.func36, Try.ntmps36
  go_wp2_with fail
  generalize w.alloc (.cells #[.int .i64 an, .slice RA rd.length rc] 51) = W at *
  go_loopw [5] (fun vi wr => ∃ i : Nat, i ≤ rd.length ∧ vi = .int .i64 (i : Int) ∧ Hid (rdB (rd.take i) on = false) ∧ wr = W) (fun vi _ => rd.length - (RowKit.intOf vi).toNat)
  case atStart => exact ⟨0, Nat.zero_le _, rfl, Lib.hid (by rw [List.take_zero]; rfl), rfl⟩
  case round =>
    obtain ⟨i, hi, rfl, HT, hw⟩ := hrel
    have hw' := hw.symm
    subst hw'
    by_cases hlt : i < rd.length
    · obtain ⟨r, hr⟩ : ∃ r, rd[i]? = some r := ⟨_, List.getElem?_eq_getElem hlt⟩
      obtain ⟨g, o, rfl, _, _, hat⟩ := HQ.out.at hlt
      have q0 := hat i r hr
      have hI : (i : Int) < (rd.length : Int) := by omega
      have hJ : (0 : Int) ≤ (i : Int) := by omega
      have HR := Lib.hid hr
      have HC := Lib.hid (HHs.out r)
      clear hat hr
      cases hd : decide (r ∈ on) with
      | true =>
        rw [hd] at HC
        have HE : Hid (rdB rd on = true) := Lib.hid (rdB_iff.2 ⟨r, List.mem_of_getElem? HR.out, of_decide_eq_true hd⟩)
        clear hd
        go_wp2_with fail
        refine HC.out.mono ?_; rintro e w1 ⟨rfl, hw1⟩
        have hw1' := hw1.symm
        subst hw1'
        go_wp2_with fail
        go_ret
        exact ⟨by rw [HE.out]; rfl, HBa.out⟩
      | false =>
        rw [hd] at HC
        have HT2 : Hid (rdB (rd.take (i + 1)) on = false) := Lib.hid (by
          have ht := HT.out
          unfold rdB at ht ⊢
          rw [List.take_add_one, HR.out, List.any_append, ht]
          simp [hd])
        clear hd
        go_wp2_with fail
        refine HC.out.mono ?_; rintro e w1 ⟨rfl, hw1⟩
        have hw1' := hw1.symm
        subst hw1'
        go_wp2_with fail
        go_roundw
        case rel => exact ⟨i + 1, by omega, by go_num, HT2, by first | rfl | trivial⟩
        case measure => simp [RowKit.intOf]; omega
    · have hii : i = rd.length := by omega
      subst hii
      have ht := HT.out
      rw [List.take_length] at ht
      have HE := Lib.hid ht
      clear ht
      go_wp2_with fail
      go_ret
      exact ⟨by rw [HE.out]; rfl, HBa.out⟩
def GRow (w : World) (L : List Int) (e : Ending) (w' : World) : Prop := ∃ O co, e = .returned (.slice O L.length co) ∧ L.length ≤ co ∧ RowI w' (fun g => w.heap.size ≤ g) O L ∧ Below w.heap.size w w'
theorem own_rowG {E : TypeId} {base : Nat} {w : World} {v : Value} {L : List Int} (h : OwnR E 1 inW base w v L) : ∃ (A : Option Addr) (cap : Nat), v = .slice A L.length cap ∧ L.length ≤ cap ∧ RowI w (fun g => base ≤ g) A L := by
  obtain ⟨O, co, e, hk, hc⟩ := OwnR.shape (f := inW) (n := 1) (fun _ => rfl) h
  refine ⟨O, co, e, hk, ?_⟩
  by_cases hne : L = []
  · exact .inl hne
  · obtain ⟨g, o, e', hat⟩ := hc hne
    have hob : v.ownBlock = some g := by rw [e, e']; rfl
    have hl := World.ownsRow.lt h g hob
    exact .inr ⟨g, o, e', hl.1, hl.2, fun j x hj => by have := hat j x hj 0 _ rfl; simpa using this⟩
set_option maxHeartbeats 8000000 in
set_option maxRecDepth 10000 in
theorem gnodes_any (N : Nat) (hN : N = 1024) (l : List LkM) (A : Option Addr) (ca : Nat) (w : World) {P : Nat → Prop} (hl : RowL w P A l) (hll : l.length ≤ 1000000) :
    Calls Try.prog 12 #[.slice A l.length ca] w fun e w' => GRow w (nodesG (lkS l) N) e w' := by
  obtain ⟨i0, hi0, hz0, hz1, hz2⟩ := info_parts gint_info
  have HF := Lib.hid (fun (w1 : World) (hb : Below w.heap.size w w1) (n : Int) => gfind_any l A ca w1 (hl.below hb) hll n)
  have HNd := Lib.hid (fun (n : Int) => findM_node l n)
  have HN := Lib.hid hN
  clear hl hN
  generalize lkS l = L at *
  go_enter Try.func12, Try.ntmps12
  go_wp2_with fail
  go_loopw [3, 4] (fun v vi wr => ∃ (i : Nat), i ≤ 1024 ∧ vi = .int .i64 (i : Int) ∧ Hid (OwnR 3 1 inW w.heap.size wr v (nodesG L i)) ∧ Hid (Below w.heap.size w wr)) (fun _ vi _ => 1024 - (RowKit.intOf vi).toNat)
  case atStart => exact ⟨0, Nat.zero_le _, rfl, Lib.hid (World.ownsRow_nil _ _ _ _), Lib.hid (Below.refl _ _)⟩
  case round =>
    obtain ⟨i, hi, rfl, HO, HB⟩ := hrel
    have hbs := HB.out.size
    by_cases hlt : (i : Int) ≤ 1023
    · have HC := Lib.hid (HF.out wr HB.out (i : Int))
      have HNi := Lib.hid (HNd.out (i : Int))
      have hlen : (nodesG L i).length ≤ i := upto_len _ _
      cases hf : findM l (i : Int) with
      | none =>
        rw [hf] at HC HNi
        have HE : Hid (nodesG L i = nodesG L (i + 1)) := Lib.hid (upto_no (fun h => by have := HNi.out.2 h; cases this)).symm
        rw [HE.out] at HO
        unfold fndV at HC
        clear hf HNi
        go_wp2_with fail
        refine HC.out.mono ?_; rintro e w1 ⟨rfl, hb1⟩
        have HB1 := Lib.hid (HB.out.trans (hb1.mono HB.out.size))
        have HO1 := Lib.hid (HO.out.below hb1)
        have hs1 := hb1.size
        clear hb1
        go_wp2_with fail
        go_roundw
        case rel => exact ⟨i + 1, by omega, by go_num, Lib.hid (HO1.out.below ((Below.refl _ _).alloc (Nat.le_refl _) _)), Lib.hid (HB1.out.alloc (by omega) _)⟩
        case measure => simp [RowKit.intOf]; omega
      | some q =>
        rw [hf] at HC HNi
        have HE : Hid (nodesG L (i + 1) = nodesG L i ++ [(i : Int)]) := Lib.hid (upto_yes (HNi.out.1 rfl))
        obtain ⟨an, rd, RA, rc⟩ := q
        unfold fndV at HC
        clear hf HNi
        obtain ⟨M, hM⟩ : ∃ M, (nodesG L i).length = M := ⟨_, rfl⟩
        have HM := Lib.hid hM
        rw [hM] at hlen
        clear hM
        generalize nodesG L i = C0 at *
        generalize hC1 : nodesG L (i + 1) = C1 at *
        go_wp2_with fail
        refine HC.out.mono ?_; rintro e w1 ⟨rfl, hb1⟩
        have HB1 := Lib.hid (HB.out.trans (hb1.mono HB.out.size))
        have HO1 := Lib.hid (HO.out.below hb1)
        have hs1 := hb1.size
        clear hb1
        go_wp2_with (at_builtin; refine of_stop ?_)
        refine stop_of ?_
        have b0 : Below w.heap.size w1 ((w1.alloc (.cells #[.int .i64 an, .slice RA rd.length rc] 51)).alloc (.cells #[.int .i64 (i : Int)] 3)) := ((Below.refl _ _).alloc (by omega) _).alloc (by simp; omega) _
        refine wpList_append_rows (f := inW) (n := 1) (E := 3) (nb := 8) (X := C0) (base := w.heap.size) rfl _ _ rfl rfl (OwnR.below HO1.out (((Below.refl _ _).alloc (Nat.le_refl _) _).alloc (by simp) _)) (L2 := [(i : Int)]) rfl (by have h := one_row (f := inW) (n := 1) (E := 3) (w1.alloc (.cells #[.int .i64 an, .slice RA rd.length rc] 51)) (i : Int); rw [show (w1.alloc (.cells #[.int .i64 an, .slice RA rd.length rc] 51)).heap.size = w1.heap.size + 1 by simp] at h; exact h) (by simp) (N := M + 1) (by rw [HM.out]; rfl) (Z := C1) HE.out.symm Try.underlying23 hi0 hz0 hz1 hz2 rfl (by decide) (by decide) (fun _ => rfl) inW_one (by omega) (by simp; omega) ?_
        intro g4 k4 w4 ho4 hg4 hat4 hl4
        have hb4 : Below w.heap.size w1 w4 := Below.grown b0 hg4 (by simp; omega) (fun k hk => (World.ownsRow.lt HO1.out k hk).1)
        have HO4 := Lib.hid ho4
        have HB4 := Lib.hid (HB1.out.trans hb4)
        clear ho4 hg4 hat4 hl4 hb4 b0
        rw [← hC1] at HO4
        go_wp2_with fail
        go_roundw
        case rel => exact ⟨i + 1, by omega, by go_num, HO4, HB4⟩
        case measure => simp [RowKit.intOf]; omega
    · have hii : i = N := by have := HN.out; omega
      subst hii
      obtain ⟨O, co, hv, hc, hr⟩ := own_rowG HO.out
      subst hv
      have HR := Lib.hid hr
      clear hr
      go_wp2_with fail
      go_ret
      exact ⟨O, co, rfl, hc, HR.out, HB.out⟩
end Go.Proofs.Ytbppkflgokfjhaa
namespace Go.Proofs.Ytbppkflgokfjhaa
open Go.RowKit Go.Maps Go.MapKept Go.ChangeMaps
structure Elm (α : Type) where
  val : α → Value
  dat : α → DataW Unit
  rd : Value → Option (DataW Unit × List MemPlace)
  here : ∀ a, rd (val a) = some (dat a, [])
  back : ∀ {v : Value} {a : α} {ps : List MemPlace}, rd v = some (dat a, ps) → v = val a
def kI (x : Int) : Lit := .int .i64 x
def KB (x : Int) : Prop := -9223372036854775808 ≤ x ∧ x ≤ 9223372036854775807
theorem intKeyedM : Keyed Try.prog 3 := int_keyed Try.underlying3
theorem key_int {x : Int} (h : KB x) : keyOf Try.prog 3 (.int .i64 x) = some (kI x) := keyOf_int_mk Try.underlying3 (by
  have e1 : IntKind.i64.min = -9223372036854775808 := rfl
  have e2 : IntKind.i64.max = 9223372036854775807 := rfl
  unfold KB at h
  simp [Lit.wf, e1, e2]
  omega)
theorem kI_inj {x y : Int} (h : kI x = kI y) : x = y := by
  unfold kI at h
  exact (Lit.int.inj h).2
structure HasI {α : Type} (E : Elm α) (D : DataW Unit) (f : Int → Option α) : Prop where
  at_ : ∀ x a z, f x = some a → D.atKey (kI x) z = E.dat a ∧ has D (kI x) = true
  only : ∀ kl, has D kl = true → ∃ x, (f x).isSome = true ∧ kl = kI x
  wide : ∀ x, (f x).isSome = true → KB x
def updI {α : Type} (f : Int → Option α) (x : Int) (a : α) : Int → Option α := fun y => if y = x then some a else f y
theorem HasI.miss {α : Type} {E : Elm α} {D : DataW Unit} {f : Int → Option α} (h : HasI E D f) {x : Int} (hx : f x = none) : has D (kI x) = false := by
  cases e : has D (kI x) with
  | false => rfl
  | true =>
    obtain ⟨y, hy, hk⟩ := h.only _ e
    rw [← kI_inj hk, hx] at hy
    cases hy
theorem HasI.put {α : Type} {E : Elm α} {D : DataW Unit} {f : Int → Option α} (hM : IsMap D) (h : HasI E D f) {x : Int} (hx : KB x) (a : α) : HasI E (D.put (kI x) (E.dat a)) (updI f x a) := by
  have hkey := intKeyedM.key (key_int hx)
  refine ⟨fun y b z hy => ?_, fun kl hl => ?_, fun y hy => ?_⟩
  · unfold updI at hy
    by_cases e : y = x
    · rw [if_pos e] at hy
      cases hy
      rw [e, atKey_put_same hM hkey, has_put_same hM hkey]
      exact ⟨rfl, rfl⟩
    · rw [if_neg e] at hy
      have hne : kI y ≠ kI x := fun e' => e (kI_inj e')
      rw [atKey_put_other hne, has_put_other hne]
      exact h.at_ y b z hy
  · by_cases e : kl = kI x
    · exact ⟨x, by unfold updI; rw [if_pos rfl]; rfl, e⟩
    · rw [has_put_other e] at hl
      obtain ⟨y, hy, hk⟩ := h.only kl hl
      refine ⟨y, ?_, hk⟩
      unfold updI
      by_cases e2 : y = x
      · rw [if_pos e2]; rfl
      · rw [if_neg e2]; exact hy
  · unfold updI at hy
    by_cases e : y = x
    · rw [e]; exact hx
    · rw [if_neg e] at hy; exact h.wide y hy
def MapI {α : Type} (E : Elm α) (w : World) (b n : Nat) (f : Int → Option α) : Prop := ∃ D : DataW Unit, w.ownsMap Try.prog 3 E.rd b n D ∧ HasI E D f
section
variable {α : Type} {E : Elm α} {w w' : World} {b n : Nat} {f : Int → Option α}
theorem MapI.below (h : MapI E w b n f) (hb : Below w.heap.size w w') : MapI E w' b n f := by
  obtain ⟨D, h1, h2⟩ := h
  exact ⟨D, h1.kept (grown_of_below hb none) (by simp), h2⟩
theorem MapI.lt (h : MapI E w b n f) : b < w.heap.size := by
  obtain ⟨D, h1, _⟩ := h
  exact h1.lt
theorem MapI.mono (h : MapI E w b n f) {m : Nat} (hm : n ≤ m) : MapI E w b m f := by
  obtain ⟨D, h1, h2⟩ := h
  exact ⟨D, h1.mono hm, h2⟩
theorem MapI.made (E : Elm α) (w : World) : MapI E (w.alloc (.map #[] 0)) w.heap.size 0 (fun _ => none) :=
  ⟨.map [], World.ownsMap_made w Try.prog 3 E.rd, ⟨fun x a z h => (by cases h), fun kl h => (by cases h), fun x h => (by cases h)⟩⟩
theorem MapI.look_ok (h : MapI E w b n f) {tm te : TypeId} (ht : Try.prog.underlying tm = some (.map 3 te)) {z : α} (hz : (zeroValue te).run Try.prog w = .ok (E.val z) w) {x : Int} (hx : KB x) :
    (Instr.lookup tm (.map (some b)) (.int .i64 x) true).run Try.prog w = .ok (.tuple #[E.val ((f x).getD z), .bool (f x).isSome]) w := by
  obtain ⟨D, h1, h2⟩ := h
  obtain ⟨v, ps, hrun, hv⟩ := h1.look_ok intKeyedM ht hz (zd := E.dat z) (zp := []) (E.here z) (key_int hx)
  cases e : f x with
  | none =>
    have hm := h2.miss e
    rw [atKey_of_not_has hm] at hv
    have := E.back hv
    subst this
    rw [hrun, hm]; rfl
  | some a =>
    obtain ⟨e1, e2⟩ := h2.at_ x a (E.dat z) e
    rw [e1] at hv
    have := E.back hv
    subst this
    rw [hrun, e2]; rfl
theorem MapI.look (h : MapI E w b n f) {tm te : TypeId} (ht : Try.prog.underlying tm = some (.map 3 te)) {z : α} (hz : (zeroValue te).run Try.prog w = .ok (E.val z) w) {x : Int} (hx : KB x) :
    (Instr.lookup tm (.map (some b)) (.int .i64 x) false).run Try.prog w = .ok (E.val ((f x).getD z)) w := by
  obtain ⟨D, h1, h2⟩ := h
  obtain ⟨v, ps, hrun, hv⟩ := h1.lookup intKeyedM ht hz (zd := E.dat z) (zp := []) (E.here z) (key_int hx)
  cases e : f x with
  | none =>
    rw [atKey_of_not_has (h2.miss e)] at hv
    have := E.back hv
    subst this
    exact hrun
  | some a =>
    rw [(h2.at_ x a (E.dat z) e).1] at hv
    have := E.back hv
    subst this
    exact hrun
theorem MapI.put (h : MapI E w b n f) {tm te : TypeId} (ht : Try.prog.underlying tm = some (.map 3 te)) (hn : n < maxLen) {x : Int} (hx : KB x) (a : α) :
    ∃ w', (Instr.mapUpdate tm (.map (some b)) (.int .i64 x) (E.val a)).run Try.prog w = .ok () w' ∧ MapI E w' b (n + 1) (updI f x a) ∧ w.grownBy w' (some b) ∧ w'.heap.size = w.heap.size ∧ ∀ p, w'.frozen? p = w.frozen? p := by
  obtain ⟨D, h1, h2⟩ := h
  obtain ⟨w', hrun, r1, r2⟩ := h1.store intKeyedM ht hn (key_int hx) (E.here a)
  exact ⟨w', hrun, ⟨_, r1, h2.put h1.isMap hx a⟩, r2.grown, by obtain ⟨es, clock, es', clock', hb, rfl⟩ := r2; simp [setBlock], r2.frozen⟩
end
/- elements: bools, slices -/
structure Sl where
  A : Option (Nat × Nat)
  len : Nat
  cap : Nat
def Sl.addr (s : Sl) : Option Addr := s.A.map fun p => ⟨p.1, p.2, none⟩
def slE : Elm Sl where
  val s := .slice s.addr s.len s.cap
  dat s := .agg [.lit (.int .i64 (match s.A with | none => -1 | some p => (p.1 : Int))), .lit (.int .i64 (match s.A with | none => -1 | some p => (p.2 : Int))), .lit (.int .i64 s.len), .lit (.int .i64 s.cap)]
  rd v := match v with
    | .slice none l c => some (.agg [.lit (.int .i64 (-1)), .lit (.int .i64 (-1)), .lit (.int .i64 l), .lit (.int .i64 c)], [])
    | .slice (some ⟨g, o, none⟩) l c => some (.agg [.lit (.int .i64 g), .lit (.int .i64 o), .lit (.int .i64 l), .lit (.int .i64 c)], [])
    | _ => none
  here s := by
    obtain ⟨A, l, c⟩ := s
    cases A <;> rfl
  back {v a ps} h := by
    obtain ⟨A, l, c⟩ := a
    split at h
    · rename_i l' c'
      cases A with
      | none =>
        simp at h
        obtain rfl : l' = l := by omega
        obtain rfl : c' = c := by omega
        rfl
      | some p =>
        simp at h
    · rename_i g' o' l' c'
      cases A with
      | none =>
        simp at h
      | some p =>
        obtain ⟨g, o⟩ := p
        simp at h
        obtain rfl : l' = l := by omega
        obtain rfl : c' = c := by omega
        obtain rfl : g' = g := by omega
        obtain rfl : o' = o := by omega
        rfl
    · cases h
end Go.Proofs.Ytbppkflgokfjhaa
namespace Go.Proofs.Ytbppkflgokfjhaa
open Go.RowKit Go.Maps Go.MapKept Go.ChangeMaps
theorem rise_sort {l : List Int} (h : l.Pairwise (· < ·)) : l.mergeSort leI = l :=
  List.mergeSort_of_pairwise (h.imp fun {a b} hab => by simp only [leI, decide_eq_true_eq]; omega)
section
variable {α : Type} {E : Elm α} {w w' : World} {b n : Nat} {f : Int → Option α} {D : DataW Unit}
theorem HasI.keys (h : HasI E D f) (ho : w.ownsMap Try.prog 3 E.rd b n D) {L : List Int} (hd : L.Nodup) (hL : ∀ x, x ∈ L ↔ (f x).isSome = true) : L.Perm (intKeys D) ∧ Maps.size D = L.length := by
  obtain ⟨es, rfl, hp, hk⟩ := ho.entries intKeyedM
  have hint : ∀ p ∈ es, ∃ x, p.1 = .int .i64 x := fun p hp' => by
    obtain ⟨x, _, e⟩ := h.only p.1 (by rw [has_eq, List.any_eq_true]; exact ⟨p, hp', WideAt.sameKey_self (hk p hp')⟩)
    exact ⟨x, e⟩
  have hP : L.Perm (intKeys (.map es)) := perm_intKeys hp hint hd fun x => by
    rw [hL]
    constructor
    · intro hx
      obtain ⟨a, ha⟩ := Option.isSome_iff_exists.1 hx
      exact (h.at_ x a (.nil) ha).2
    · intro hx
      obtain ⟨y, hy, e⟩ := h.only _ hx
      rw [kI_inj e]; exact hy
  refine ⟨hP, ?_⟩
  rw [hP.length_eq]
  show es.length = (es.map _).length
  rw [List.length_map]
theorem HasI.sorted (h : HasI E D f) (ho : w.ownsMap Try.prog 3 E.rd b n D) {L : List Int} (hL : L.Pairwise (· < ·)) (hm : ∀ x, x ∈ L ↔ (f x).isSome = true) : (intKeys D).mergeSort leI = L ∧ Maps.size D = L.length := by
  obtain ⟨h1, h2⟩ := h.keys ho (hL.imp fun {a b} hab => by omega) hm
  exact ⟨by rw [← mergeSort_of_perm_i h1, rise_sort hL], h2⟩
theorem MapI.len (h : MapI E w b n f) {tm te : TypeId} (ht : Try.prog.underlying tm = some (.map 3 te)) {L : List Int} (hd : L.Nodup) (hm : ∀ x, x ∈ L ↔ (f x).isSome = true) (ty : TypeId) : (Builtin.len_ #[tm] ty #[.map (some b)]).run Try.prog w = .ok (.int .i64 (L.length : Int)) w := by
  obtain ⟨D, h1, h2⟩ := h
  rw [h1.len ht ty, (h2.keys h1 hd hm).2]
end
end Go.Proofs.Ytbppkflgokfjhaa
namespace Go.Proofs.Ytbppkflgokfjhaa
open Go.RowKit Go.Maps Go.MapKept
theorem upon_run {P : Program} {o : Oper} {a : Act} {K : Act → World → Prop} {Q : Exit → Act → World → Prop} {m : Sem Value} {v : Value} {w w' : World} (h : m.run P w = .ok v w') (hk : K (a.put o.dst v) w') : Oper.upon P o a K Q ((m.run P w).andThen fun a w' => Result.ok (Next.value a) w') := by
  rw [h]
  exact hk
structure ButG (R : Nat) (w w' : World) : Prop where
  os : w'.os = w.os
  tape : w'.tape = w.tape
  output : w'.output = w.output
  size : w.heap.size ≤ w'.heap.size
  block : ∀ k, k < w.heap.size → k ≠ R → w'.heap[k]? = w.heap[k]?
theorem ButG.refl (R : Nat) (w : World) : ButG R w w := ⟨rfl, rfl, rfl, Nat.le_refl _, fun _ _ _ => rfl⟩
theorem ButG.trans {R : Nat} {a b c : World} (h : ButG R a b) (k : ButG R b c) : ButG R a c :=
  ⟨k.os.trans h.os, k.tape.trans h.tape, k.output.trans h.output, Nat.le_trans h.size k.size, fun i hi hn => (k.block i (Nat.lt_of_lt_of_le hi h.size) hn).trans (h.block i hi hn)⟩
theorem ButG.of_below {R : Nat} {w w' : World} (h : Below w.heap.size w w') : ButG R w w' := ⟨h.os, h.tape, h.output, h.size, fun k hk _ => h.block k hk⟩
theorem ButG.alloc {R : Nat} {a w : World} (h : ButG R a w) (o : Obj) : ButG R a (w.alloc o) := h.trans (ButG.of_below ((Below.refl _ _).alloc (Nat.le_refl _) o))
theorem ButG.drew {R : Nat} {a w : World} (h : ButG R a w) : ButG R a w.drew := ⟨h.os, h.tape, h.output, h.size, h.block⟩
theorem ButG.setCell {R : Nat} {a w : World} (h : ButG R a w) {p : Addr} (hp : p.block = R ∨ a.heap.size ≤ p.block) (u : Value) : ButG R a (w.setCell p u) := by
  have hb := (Below.refl 0 w).setCell (p := p) (Nat.zero_le _) u
  refine ⟨hb.os.trans h.os, hb.tape.trans h.tape, hb.output.trans h.output, Nat.le_trans h.size hb.size, fun k hk hn => ?_⟩
  rw [Below.heap_setCell w p u k (by rcases hp with hp | hp; exact fun e => hn (e.trans hp); exact fun e => by omega)]
  exact h.block k hk hn
theorem ButG.setR {R : Nat} {a w : World} (h : ButG R a w) (o : Nat) (u : Value) : ButG R a (w.setCell ⟨R, o, none⟩ u) := h.setCell (.inl rfl) u
theorem ButG.drewN {R : Nat} {a w : World} (h : ButG R a w) (n : Nat) : ButG R a (w.drewN n) := h.trans (ButG.of_below (below_drewN (Below.refl _ _) n))
theorem ButG.cell {R : Nat} {w w' : World} (h : ButG R w w') {p : Addr} {v : Value} (hne : p.block ≠ R) (hv : w.cell? p = some v) : w'.cell? p = some v := by
  rw [World.cell?_of_block (w := w) (h.block p.block (Lib.lt_of_cell hv) hne)]; exact hv
theorem ButG.frozen {R : Nat} {w w' : World} (h : ButG R w w') {p : Addr} (hne : p.block ≠ R) (hl : p.block < w.heap.size) (hv : w.frozen? p = false) : w'.frozen? p = false := by
  rw [World.frozen?_of_block (w := w) (h.block p.block hl hne)]; exact hv
theorem ButG.kept {R : Nat} {w w' : World} (h : ButG R w w') : Kept w w' (fun g => g ≠ R) := ⟨h.size, fun g hp hl => h.block g hl hp⟩
theorem ButG.below {R n : Nat} {w w' : World} (h : ButG R w w') (hn : n ≤ R) (hs : n ≤ w.heap.size) : Below n w w' := ⟨h.os, h.tape, h.output, h.size, fun k hk => h.block k (by omega) (by omega)⟩
theorem ButG.grown {R : Nat} {a w w' : World} {row : Option Nat} (h : ButG R a w) (hg : w.grownBy w' row) (hr : ∀ k, row = some k → k = R ∨ a.heap.size ≤ k) : ButG R a w' :=
  ⟨hg.os.trans h.os, hg.tape.trans h.tape, hg.output.trans h.output, Nat.le_trans h.size hg.size, fun k hk hn => (hg.block k (Nat.lt_of_lt_of_le hk h.size) (fun e => by rcases hr k e.symm with h' | h'; exact hn h'; omega)).trans (h.block k hk hn)⟩
def Ar {α : Type} (T : TypeId) (enc : α → Value) (V : World) (B : Nat) (f : Int → α) : Prop := ∃ c : Array Value, V.heap[B]? = some (.cells c T (0, 0)) ∧ c.size = 1024 ∧ ∀ j : Nat, j < 1024 → c[j]? = some (enc (f (j : Int)))
def updF {α : Type} (f : Int → α) (x : Int) (a : α) : Int → α := fun y => if y = x then a else f y
section
variable {α : Type} {T : TypeId} {enc : α → Value} {V V' : World} {B : Nat} {f g : Int → α}
theorem Ar.world (h : Ar T enc V B f) (hb : V'.heap[B]? = V.heap[B]?) : Ar T enc V' B f := by
  obtain ⟨c, h1, h2, h3⟩ := h
  exact ⟨c, hb.trans h1, h2, h3⟩
theorem Ar.lt (h : Ar T enc V B f) : B < V.heap.size := by
  obtain ⟨c, h1, _⟩ := h
  exact (Array.getElem?_eq_some_iff.1 h1).1
theorem Ar.below (h : Ar T enc V B f) (hb : Below V.heap.size V V') : Ar T enc V' B f := h.world (hb.block _ h.lt)
theorem Ar.cell (h : Ar T enc V B f) {j : Nat} (hj : j < 1024) : V.cell? ⟨B, j, none⟩ = some (enc (f (j : Int))) ∧ V.frozen? ⟨B, j, none⟩ = false := by
  obtain ⟨c, h1, h2, h3⟩ := h
  refine ⟨?_, by simp [World.frozen?, h1]⟩
  rw [Lib.cell_of_heap h1 j]
  exact h3 j hj
theorem Ar.set (h : Ar T enc V B f) {j : Nat} (a : α) : Ar T enc (V.setCell ⟨B, j, none⟩ (enc a)) B (updF f (j : Int) a) := by
  obtain ⟨c, h1, h2, h3⟩ := h
  refine ⟨c.setIfInBounds j (enc a), ?_, by rw [Array.size_setIfInBounds, h2], fun i hi => ?_⟩
  · have hlt := (Array.getElem?_eq_some_iff.1 h1).1
    have he := (Array.getElem?_eq_some_iff.1 h1).2
    show (V.heap.modify B _)[B]? = _
    rw [Array.getElem?_eq_getElem (by rw [Array.size_modify]; exact hlt), Array.getElem_modify_self, he]
    rfl
  · rw [Array.getElem?_setIfInBounds]
    unfold updF
    by_cases e : j = i
    · subst e
      rw [if_pos rfl, if_pos (by rw [h2]; exact hi), if_pos rfl]
    · rw [if_neg e, if_neg (by omega), h3 i hi]
theorem Ar.made {z : α} {zs : Array Value} (hz : zs = Array.replicate 1024 (enc z)) (w : World) : Ar T enc (w.alloc (.cells zs T)) w.heap.size (fun _ => z) := by
  refine ⟨_, heap_alloc_new w _, by rw [hz]; exact Array.size_replicate .., fun j hj => ?_⟩
  rw [hz, Array.getElem?_replicate, if_pos hj]
theorem Ar.congr (h : Ar T enc V B f) (hg : ∀ n, f n = g n) : Ar T enc V B g := by rw [show g = f from funext fun n => (hg n).symm]; exact h
end
def MkG (V : World) (B : Nat) (M : Int → Bool) : Prop := Ar 59 Value.bool V B M
theorem marksG_zero : Try.zeroCells59 = Array.replicate 1024 (.bool false) := by kernel_rfl
def sl0 : Sl := ⟨none, 0, 0⟩
structure RowS (w : World) (P : Nat → Prop) (s : Sl) (l : List Int) : Prop where
  len : s.len = l.length
  row : RowI w P s.addr l
theorem RowS.none (w : World) (P : Nat → Prop) : RowS w P sl0 [] := ⟨rfl, .inl rfl⟩
theorem RowS.below {w w' : World} {P : Nat → Prop} {s : Sl} {l : List Int} (h : RowS w P s l) (hb : Below w.heap.size w w') : RowS w' P s l := ⟨h.len, h.row.below hb⟩
structure RdOK (L : List Lk) (R1 R2 : Int → List Int) : Prop where
  r1 : ∀ n y, y ∈ R1 n ↔ Ed L n y
  l1 : ∀ n, (R1 n).length ≤ 60
  r2 : ∀ y n, n ∈ R2 y ↔ Ed L n y
  d2 : ∀ y, (R2 y).Nodup
theorem RdOK.l2 {L : List Lk} {R1 R2 : Int → List Int} (h : RdOK L R1 R2) (y : Int) : (R2 y).length ≤ L.length := found_len (h.d2 y) fun n hn => ((h.r2 y n).1 hn).node
structure GrM (w : World) (g : Nat) (b1 b2 n1 n2 : Nat) (f1 f2 : Int → Option Sl) (L : List Lk) (R1 R2 : Int → List Int) : Prop where
  c0 : w.cell? ⟨g, 0, none⟩ = some (.map (some b1))
  c1 : w.cell? ⟨g, 1, none⟩ = some (.map (some b2))
  lt : g < w.heap.size
  m1 : MapI slE w b1 n1 f1
  m2 : MapI slE w b2 n2 f2
  nod : ∀ n, (f1 n).isSome = true ↔ isN L n
  s1 : ∀ n, RowS w (fun h => h < w.heap.size) ((f1 n).getD sl0) (R1 n)
  s2 : ∀ n, RowS w (fun h => h < w.heap.size) ((f2 n).getD sl0) (R2 n)
  ok : RdOK L R1 R2
theorem RowI.lts {w : World} {P : Nat → Prop} {A : Option Addr} {l : List Int} (h : RowI w P A l) : RowI w (fun h => h < w.heap.size) A l := by
  rcases h with h | ⟨g, o, rfl, hp, hl, hc⟩
  · exact .inl h
  · exact .inr ⟨g, o, rfl, hl, hl, hc⟩
def GP12 (w : World) (g : Nat) (L : List Lk) : Prop := ∃ b1 b2 n1 n2 f1 f2 R1 R2, GrM w g b1 b2 n1 n2 f1 f2 L R1 R2
section
variable {w w' : World} {g b1 b2 n1 n2 : Nat} {f1 f2 : Int → Option Sl} {L : List Lk} {R1 R2 : Int → List Int}
theorem GrM.below (h : GrM w g b1 b2 n1 n2 f1 f2 L R1 R2) (hb : Below w.heap.size w w') : GrM w' g b1 b2 n1 n2 f1 f2 L R1 R2 where
  c0 := (hb.cell h.lt).trans h.c0
  c1 := (hb.cell h.lt).trans h.c1
  lt := Nat.lt_of_lt_of_le h.lt hb.size
  m1 := h.m1.below hb
  m2 := h.m2.below hb
  nod := h.nod
  s1 := fun n => ⟨(h.s1 n).len, ((h.s1 n).row.below hb).lts⟩
  s2 := fun n => ⟨(h.s2 n).len, ((h.s2 n).row.below hb).lts⟩
  ok := h.ok
theorem GP12.below (h : GP12 w g L) (hb : Below w.heap.size w w') : GP12 w' g L := by
  obtain ⟨b1, b2, n1, n2, f1, f2, R1, R2, h⟩ := h
  exact ⟨b1, b2, n1, n2, f1, f2, R1, R2, h.below hb⟩
theorem under_mapG : Try.prog.underlying 46 = some (.map 3 23) := by kernel_rfl
theorem zero_sliceG (W : World) : (zeroValue 23).run Try.prog W = .ok (slE.val sl0) W := by
  show (zeroValue 23).run Try.prog W = .ok (.slice none 0 0) W
  kernel_rfl
theorem GrM.readers (h : GrM w g b1 b2 n1 n2 f1 f2 L R1 R2) (hb : Below w.heap.size w w') {x : Int} (hx : KB x) : (w'.cell? ⟨g, 1, none⟩ = some (.map (some b2)) ∧ (Instr.lookup 46 (.map (some b2)) (.int .i64 x) false).run Try.prog w' = .ok (.slice ((f2 x).getD sl0).addr (R2 x).length ((f2 x).getD sl0).cap) w') ∧ RowI w' (fun h => h < w.heap.size) ((f2 x).getD sl0).addr (R2 x) := by
  have := (h.m2.below hb).look under_mapG (zero_sliceG w') hx
  exact ⟨⟨(h.below hb).c1, by rw [this, ← (h.s2 x).len]; rfl⟩, (h.s2 x).row.below hb⟩
theorem GrM.reads (h : GrM w g b1 b2 n1 n2 f1 f2 L R1 R2) (hb : Below w.heap.size w w') {x : Int} (hx : KB x) : (w'.cell? ⟨g, 0, none⟩ = some (.map (some b1)) ∧ (Instr.lookup 46 (.map (some b1)) (.int .i64 x) false).run Try.prog w' = .ok (.slice ((f1 x).getD sl0).addr (R1 x).length ((f1 x).getD sl0).cap) w') ∧ RowI w' (fun h => h < w.heap.size) ((f1 x).getD sl0).addr (R1 x) := by
  have := (h.m1.below hb).look under_mapG (zero_sliceG w') hx
  exact ⟨⟨(h.below hb).c0, by rw [this, ← (h.s1 x).len]; rfl⟩, (h.s1 x).row.below hb⟩
end
end Go.Proofs.Ytbppkflgokfjhaa
namespace Go.Proofs.Ytbppkflgokfjhaa
open Go.RowKit Go.Maps
section
variable {P : Program} {w : World} {ops : Array Oper} {rest : List Oper} {o : Oper} {a : Act} {K : Act → World → Prop} {Q : Exit → Act → World → Prop} {E : Prop}
theorem step_lenm (hgd : o.guard = none) (s : Operand) (t : TypeId) (ho : o.op = .call { callee := .builtin .len, args := #[s], argTypes := #[t] }) {v : Value} (hs : a.eval s = v) {n : Int} (hrun : ∀ ty, (Builtin.len_ #[t] ty #[v]).run P w = .ok (.int .i64 n) w)
    (h : K (a.put o.dst (.int .i64 n)) w) : if Region.wanted o (yielded ops a.tmps) = true then Oper.wp P o a w K Q else E := by
  have hw : Region.wanted o (yielded ops a.tmps) = true := by simp [Region.wanted, hgd]
  rw [if_pos hw]
  unfold Oper.wp execOp
  simp only [ho, Go.resolve, invoke, builtin, Sem.run_bind, Sem.run_pure, Result.andThen_ok, List.map_toArray, List.map_cons, List.map_nil, hs, hrun]
  exact h
theorem wpList_lenm (hgd : o.guard = none) (s : Operand) (t : TypeId) (ho : o.op = .call { callee := .builtin .len, args := #[s], argTypes := #[t] }) {v : Value} (hs : a.eval s = v) {n : Int} (hrun : ∀ ty, (Builtin.len_ #[t] ty #[v]).run P w = .ok (.int .i64 n) w)
    (h : wpList P ops Q rest (a.put o.dst (.int .i64 n)) w) : wpList P ops Q (o :: rest) a w := by
  refine wpList_plain hgd fun K' hK' => ?_
  unfold Oper.wp execOp
  simp only [ho, Go.resolve, invoke, builtin, Sem.run_bind, Sem.run_pure, Result.andThen_ok, List.map_toArray, List.map_cons, List.map_nil, hs, hrun]
  exact hK' _ _ h
theorem step_lookm (hgd : o.guard = none) (m x : Operand) (t : TypeId) (c : Bool) (ho : o.op = .lookup t m x c) {v key : Value} (hm : a.eval m = v) (hx : a.eval x = key) {r : Value} (hrun : (Instr.lookup t v key c).run P w = .ok r w)
    (h : K (a.put o.dst r) w) : if Region.wanted o (yielded ops a.tmps) = true then Oper.wp P o a w K Q else E := by
  have hw : Region.wanted o (yielded ops a.tmps) = true := by simp [Region.wanted, hgd]
  rw [if_pos hw]
  unfold Oper.wp execOp
  simp only [ho, Sem.run_bind, Sem.run_pure, Result.andThen_ok, hm, hx, hrun]
  exact h
theorem step_updm (hgd : o.guard = none) (m x y : Operand) (t : TypeId) (ho : o.op = .mapUpdate t m x y) {v key val : Value} (hm : a.eval m = v) (hx : a.eval x = key) (hy : a.eval y = val) {w' : World} (hrun : (Instr.mapUpdate t v key val).run P w = .ok () w')
    (h : K (a.put o.dst undef) w') : if Region.wanted o (yielded ops a.tmps) = true then Oper.wp P o a w K Q else E := by
  have hw : Region.wanted o (yielded ops a.tmps) = true := by simp [Region.wanted, hgd]
  rw [if_pos hw]
  unfold Oper.wp execOp
  simp only [ho, Sem.run_bind, Sem.run_pure, Result.andThen_ok, hm, hx, hy, hrun]
  exact h
theorem wpList_updm (hgd : o.guard = none) (m x y : Operand) (t : TypeId) (ho : o.op = .mapUpdate t m x y) {v key val : Value} (hm : a.eval m = v) (hx : a.eval x = key) (hy : a.eval y = val) {w' : World} (hrun : (Instr.mapUpdate t v key val).run P w = .ok () w')
    (h : wpList P ops Q rest (a.put o.dst undef) w') : wpList P ops Q (o :: rest) a w := by
  refine wpList_plain hgd fun K' hK' => ?_
  unfold Oper.wp execOp
  simp only [ho, Sem.run_bind, Sem.run_pure, Result.andThen_ok, hm, hx, hy, hrun]
  exact hK' _ _ h
theorem step_delm (hgd : o.guard = none) (m x : Operand) (t k : TypeId) (ho : o.op = .call { callee := .builtin .delete, args := #[m, x], argTypes := #[t, k] }) {v key : Value} (hm : a.eval m = v) (hx : a.eval x = key) {w' : World} (hrun : (Builtin.delete_ #[t, k] o.type #[v, key]).run P w = .ok (.tuple #[]) w')
    (h : K (a.put o.dst (.tuple #[])) w') : if Region.wanted o (yielded ops a.tmps) = true then Oper.wp P o a w K Q else E := by
  have hw : Region.wanted o (yielded ops a.tmps) = true := by simp [Region.wanted, hgd]
  rw [if_pos hw]
  unfold Oper.wp execOp
  simp only [ho, Go.resolve, invoke, builtin, Sem.run_bind, Sem.run_pure, Result.andThen_ok, List.map_toArray, List.map_cons, List.map_nil, hm, hx, hrun]
  exact h
end
end Go.Proofs.Ytbppkflgokfjhaa
