/- Texts joined: TsPd, TsSb, DeA, DeM, DfP, DeGp, DfQ, DvA, TpN, DfM, TqG, OaG. -/
import Derived.Test.YtjgjacihdggimaaGreatDoorDk15
import Derived.Test.YtjgjacihdggimaaGreatDoorDk21
import Derived.Test.YtjgjacihdggimaaGreatDoorDk14
import Derived.Test.YtjgjacihdggimaaGreatDoorDk05
import Derived.Test.YtjgjacihdggimaaGreatDoorDk03
import Derived.Deep.RegionWith
set_option linter.all false
namespace Go.Proofs.YtjgjacihdggimaaGreatDoor
open Go.RowKit Go.Shelf
structure Duo0 (w : World) (B a m room : Nat) (s t : Sh) (T K P : Nat → Prop) (gN cN gB cB : Nat) (nds : List Nd) (bs : List Bool) : Prop where
  on : On9 w B a room s K
  rm : RM w P m gN cN gB cB room nds bs
  st : stOf nds bs = t
  inv : Inv room t
  fit : FitT t
  pk : ∀ g, P g → B ≤ g ∧ g < w.heap.size ∧ K g
  tk : ∀ g, T g → K g ∧ ¬ P g
def Duo (w : World) (B a m room : Nat) (s t : Sh) (T : Nat → Prop) : Prop := ∃ K P gN cN gB cB nds bs, Duo0 w B a m room s t T K P gN cN gB cB nds bs
section
variable {w w1 : World} {B a m room : Nat} {s s' t t' : Sh} {T : Nat → Prop}
theorem Duo.on (h : Duo w B a m room s t T) : ∃ K, On9 w B a room s K := by
  obtain ⟨K, P, gN, cN, gB, cB, nds, bs, h⟩ := h
  exact ⟨K, h.on⟩
theorem Duo.rm (h : Duo w B a m room s t T) : ∃ P gN cN gB cB nds bs, RM w P m gN cN gB cB room nds bs ∧ stOf nds bs = t ∧ Inv room (stOf nds bs) ∧ FitT (stOf nds bs) := by
  obtain ⟨K, P, gN, cN, gB, cB, nds, bs, h⟩ := h
  exact ⟨P, gN, cN, gB, cB, nds, bs, h.rm, h.st, by rw [h.st]; exact h.inv, by rw [h.st]; exact h.fit⟩
theorem Duo.inv (h : Duo w B a m room s t T) : Inv room s := by obtain ⟨K, h⟩ := h.on; exact h.inv
theorem Duo.base (h : Duo w B a m room s t T) : B ≤ w.heap.size := by obtain ⟨K, h⟩ := h.on; exact h.base
theorem Duo.lt (h : Duo w B a m room s t T) {g : Nat} (hg : T g) : g < w.heap.size := by
  obtain ⟨K, P, gN, cN, gB, cB, nds, bs, h⟩ := h
  exact h.on.lt (h.tk g hg).1
theorem Duo.fits (h : Duo w B a m room s t T) : FitT s := by obtain ⟨K, h⟩ := h.on; exact h.fits
theorem Duo.mono (h : Duo w B a m room s t T) {T' : Nat → Prop} (hT : ∀ g, T' g → T g) : Duo w B a m room s t T' := by
  obtain ⟨K, P, gN, cN, gB, cB, nds, bs, h⟩ := h
  exact ⟨K, P, gN, cN, gB, cB, nds, bs, { h with tk := fun g hg => h.tk g (hT g hg) }⟩
theorem Duo.below (h : Duo w B a m room s t T) (hb : Below w.heap.size w w1) : Duo w1 B a m room s t (fun g => T g ∨ (w.heap.size ≤ g ∧ g < w1.heap.size)) := by
  obtain ⟨K, P, gN, cN, gB, cB, nds, bs, h⟩ := h
  have hz := hb.size
  refine ⟨_, P, gN, cN, gB, cB, nds, bs, h.on.below hb, h.rm.below hb, h.st, h.inv, h.fit, fun g hg => ?_, fun g hg => ?_⟩
  · have := h.pk g hg
    exact ⟨this.1, by omega, .inl this.2.2⟩
  · rcases hg with hg | hg
    · exact ⟨.inl (h.tk g hg).1, (h.tk g hg).2⟩
    · exact ⟨.inr hg, fun e => by have := (h.pk g e).2.1; omega⟩
theorem Duo.left (h : Duo w B a m room s t T) {F : FuncId} {args : Array Value} {E : Ending → Prop} (hc : ∀ K, On9 w B a room s K → Calls Tryz.prog F args w fun e w' => ∃ K', E e ∧ Lf9 w B a room s' K w' K') :
    Calls Tryz.prog F args w fun e w' => E e ∧ Duo w' B a m room s' t T ∧ Kept w w' T ∧ Below B w w' := by
  obtain ⟨K, P, gN, cN, gB, cB, nds, bs, h⟩ := h
  refine (hc K h.on).mono fun e w' ⟨K', he, hl⟩ => ⟨he, ⟨K', P, gN, cN, gB, cB, nds, bs, hl.1, ?_, h.st, h.inv, h.fit, fun g hg => ?_, fun g hg => ?_⟩, ?_, hl.2.2.2⟩
  · exact h.rm.kept ⟨hl.2.2.1.size, fun g hg hl' => hl.2.2.1.block g (h.pk g hg).2.2 hl'⟩
  · have := h.pk g hg
    exact ⟨this.1, Nat.lt_of_lt_of_le this.2.1 hl.2.2.1.size, hl.2.1 g this.2.2⟩
  · exact ⟨hl.2.1 g (h.tk g hg).1, (h.tk g hg).2⟩
  · exact ⟨hl.2.2.1.size, fun g hg hl' => hl.2.2.1.block g (h.tk g hg).1 hl'⟩
theorem Duo.right (h : Duo w B a m room s t T) (hi : Inv room t') (hf : FitT t') {F : FuncId} {args : Array Value} {E : Ending → Prop}
    (hc : ∀ P gN cN gB cB nds bs, RM w P m gN cN gB cB room nds bs → stOf nds bs = t → (∀ g, P g → B ≤ g ∧ g < w.heap.size) → (∀ g, T g → ¬ P g) → Calls Tryz.prog F args w fun e w' => ∃ gN' cN' gB' cB' nds' bs', E e ∧ stOf nds' bs' = t' ∧ RM w' (fun g => P g ∨ w.heap.size ≤ g) m gN' cN' gB' cB' room nds' bs' ∧ ButS P w w') :
    Calls Tryz.prog F args w fun e w' => E e ∧ Duo w' B a m room s t' T ∧ Kept w w' T ∧ Below B w w' := by
  obtain ⟨K, P, gN, cN, gB, cB, nds, bs, h⟩ := h
  refine (hc P gN cN gB cB nds bs h.rm h.st (fun g hg => ⟨(h.pk g hg).1, (h.pk g hg).2.1⟩) (fun g hg => (h.tk g hg).2)).mono fun e w' ⟨gN', cN', gB', cB', nds', bs', he, hs, hr, hbu⟩ => ?_
  have hz := hbu.size
  have hbB : Below B w w' := hbu.below (fun k hk e => by have := (h.pk k e).1; omega) h.on.base
  have hB := h.on.base
  refine ⟨he, ⟨_, _, gN', cN', gB', cB', nds', bs', h.on.kept (Q := P) (fun g hg hl => hbu.block g hl hg) hz (fun g hg => .inl (h.pk g hg).2.2) hbB, hr.tight, hs, hi, hf, fun g hg => ?_, fun g hg => ?_⟩, hbu.keptQ fun g hg => (h.tk g hg).2, hbB⟩
  · rcases hg.1 with q | q
    · have := h.pk g q
      exact ⟨this.1, hg.2, .inl this.2.2⟩
    · exact ⟨by omega, hg.2, .inr ⟨q, hg.2⟩⟩
  · refine ⟨.inl (h.tk g hg).1, fun e => ?_⟩
    rcases e.1 with q | q
    · exact (h.tk g hg).2 q
    · have := h.on.lt (h.tk g hg).1
      omega
theorem Duo.begin {K : Nat → Prop} (ho : On9 w B a room [] K) {gN gB : Nat} (hr : RM w1 (fun g => w.heap.size ≤ g) m gN 1 gB 1 room [nd0] [false]) (hb : Below w.heap.size w w1) (hT : ∀ g, T g → K g) : Duo w1 B a m room [] [] T := by
  have hz := hb.size
  have hB := ho.base
  refine ⟨_, _, gN, 1, gB, 1, [nd0], [false], ho.below hb, hr.tight, rfl, inv_nil room, fun h n e => ?_, fun g hg => ⟨by have := hg.1; omega, hg.2, .inr ⟨hg.1, hg.2⟩⟩, fun g hg => ⟨.inl (hT g hg), fun e => by have := ho.lt (hT g hg); have := e.1; omega⟩⟩
  unfold ndAt at e
  split at e <;> simp at e
end
end Go.Proofs.YtjgjacihdggimaaGreatDoor
namespace Go.Proofs.YtjgjacihdggimaaGreatDoor
open Go.RowKit
theorem putT_bound {room : Nat} {s : Sh} (hi : Inv room s) (l : List En) : 0 ≤ (putT room s l).2.1 ∧ (putT room s l).2.1 ≤ (room : Int) := by
  unfold putT
  show 0 ≤ (putA room s (nodesL l)).2.1.getLastD 0 ∧ (putA room s (nodesL l)).2.1.getLastD 0 ≤ (room : Int)
  have key : ∀ x ∈ (putA room s (nodesL l)).2.1, 0 ≤ x ∧ x ≤ (room : Int) := by
    unfold putA
    split
    · intro x hx; cases hx
    · rename_i hw
      split
      · intro x hx; cases hx
      · rename_i s' out e
        intro x hx
        have h1 := inv_putL (s0 := s) (out := []) hi (Up.refl _) (fun _ h => by cases h) (by simpa using hw) e
        have h2 := live_bound (h1.2 x hx)
        have h3 := h1.1.len
        omega
  cases hl : (putA room s (nodesL l)).2.1.getLast? with
  | none => rw [List.getLastD_eq_getLast?, hl]; exact ⟨Int.le_refl _, by show (0 : Int) ≤ (room : Int); omega⟩
  | some y =>
    rw [List.getLastD_eq_getLast?, hl]
    exact key y (List.mem_of_getLast? hl)
theorem bldR_bound {room : Nat} {s : Sh} (hi : Inv room s) (l : List En) : 0 ≤ (pBldR room s l).2.1 ∧ (pBldR room s l).2.1 ≤ (room : Int) := by
  unfold pBldR
  split
  · exact ⟨Int.le_refl _, by show (0 : Int) ≤ (room : Int); omega⟩
  · split
    · exact ⟨Int.le_refl _, by show (0 : Int) ≤ (room : Int); omega⟩
    · exact putT_bound hi _
end Go.Proofs.YtjgjacihdggimaaGreatDoor
namespace Go.Proofs.YtjgjacihdggimaaGreatDoor
structure Ch where
  key : Int
  fr : List UInt8
  tt : List UInt8
deriving Inhabited, DecidableEq
def okC (c : Ch) : Bool := decide (0 ≤ c.key) && (decide (c.key ≤ 1023) && (decide (c.fr.length ≤ 200) && (decide (c.tt.length ≤ 200) && !decide (c.fr = c.tt))))
theorem okC_iff {c : Ch} : okC c = true ↔ 0 ≤ c.key ∧ c.key ≤ 1023 ∧ c.fr.length ≤ 200 ∧ c.tt.length ≤ 200 ∧ c.fr ≠ c.tt := by
  unfold okC; simp only [Bool.and_eq_true, decide_eq_true_eq, Bool.not_eq_true', decide_eq_false_iff_not, ne_eq]
def txE (l : List En) (k : Int) : List UInt8 := (getL l k).getD []
def Rg (l : List En) : Prop := (∀ x ∈ l, rightE x = true) ∧ DisK l
theorem rg_of {l : List En} (h : OkL l) : Rg l := ⟨h.1, ok_dis h⟩
theorem rg_sort {l : List En} (h : Rg l) : OkL (sortK l 1024) := sort_ok h.1 h.2
theorem rg_perm {l : List En} (h : Rg l) : (sortK l 1024).Perm l := sortK_perm (keyIn_of h.1)
theorem sort_self {l : List En} (h : OkL l) : sortK l 1024 = l := (rg_sort (rg_of h)).eq h fun _ => (rg_perm (rg_of h)).mem_iff
theorem right_ne {x : En} (h : rightE x = true) : x.text ≠ [] := fun e => by
  have := right_iffE.1 h
  rw [e] at this
  exact absurd this.2.2.1 (by decide)
theorem tx_mem {l : List En} (h : Rg l) {k : Int} {v : List UInt8} (hv : v ≠ []) : txE l k = v ↔ (⟨k, v⟩ : En) ∈ l := by
  unfold txE
  constructor
  · intro e
    cases g : getL l k with
    | none => rw [g] at e; exact absurd e.symm hv
    | some u => rw [g] at e; exact getL_mem (show getL l k = some v from g.trans (congrArg some e))
  · intro e
    rw [show getL l k = some v from getL_dis (x := ⟨k, v⟩) h.2 e]
    rfl
theorem tx_ext {u v : List UInt8} (h : ∀ w : List UInt8, w ≠ [] → (u = w ↔ v = w)) : u = v := by
  by_cases e : u = []
  · by_cases f : v = []
    · rw [e, f]
    · exact (h v f).2 rfl
  · exact ((h u e).1 rfl).symm
theorem rg_ext {l m : List En} (a : Rg l) (b : Rg m) (h : ∀ k : Int, 0 ≤ k → k ≤ 1023 → txE l k = txE m k) : sortK l 1024 = sortK m 1024 := by
  refine (rg_sort a).eq (rg_sort b) fun x => ?_
  rw [(rg_perm a).mem_iff, (rg_perm b).mem_iff]
  obtain ⟨k, v⟩ := x
  constructor
  · intro hx
    have hr := a.1 _ hx
    have := right_iffE.1 hr
    refine (tx_mem b (right_ne hr)).1 ?_
    rw [← h k this.1 this.2.1]
    exact (tx_mem a (right_ne hr)).2 hx
  · intro hx
    have hr := b.1 _ hx
    have := right_iffE.1 hr
    refine (tx_mem a (right_ne hr)).1 ?_
    rw [h k this.1 this.2.1]
    exact (tx_mem b (right_ne hr)).2 hx
def stepC (l : List En) (c : Ch) : List En := dropK l c.key ++ (if c.tt = [] then [] else [⟨c.key, c.tt⟩])
theorem step_mem {l : List En} {c : Ch} {y : En} : y ∈ stepC l c ↔ (y ∈ l ∧ y.key ≠ c.key) ∨ (c.tt ≠ [] ∧ y = ⟨c.key, c.tt⟩) := by
  unfold stepC
  rw [List.mem_append, dropK_mem]
  by_cases e : c.tt = []
  · rw [if_pos e]; simp [e]
  · rw [if_neg e, List.mem_singleton]; simp [e]
theorem to_right {c : Ch} (hc : okC c = true) (ht : c.tt ≠ []) : rightE ⟨c.key, c.tt⟩ = true := by
  have := okC_iff.1 hc
  refine right_iffE.2 ⟨this.1, this.2.1, ?_, this.2.2.2.1⟩
  exact List.length_pos_iff.2 ht
theorem step_rg {l : List En} {c : Ch} (h : Rg l) (hc : okC c = true) : Rg (stepC l c) := by
  constructor
  · intro y hy
    rcases step_mem.1 hy with e | ⟨ht, rfl⟩
    · exact h.1 y e.1
    · exact to_right hc ht
  · unfold stepC
    refine List.pairwise_append.2 ⟨h.2.sublist List.filter_sublist, ?_, fun a ha b hb => ?_⟩
    · split
      · exact List.Pairwise.nil
      · exact List.pairwise_singleton _ _
    · split at hb
      · cases hb
      · rw [List.mem_singleton.1 hb]; exact (dropK_mem.1 ha).2
theorem step_tx {l : List En} {c : Ch} (h : Rg l) (hc : okC c = true) (k : Int) : txE (stepC l c) k = if k = c.key then c.tt else txE l k := by
  refine tx_ext fun w hw => ?_
  rw [tx_mem (step_rg h hc) hw, step_mem]
  by_cases e : k = c.key
  · rw [if_pos e]
    constructor
    · rintro (q | ⟨_, q⟩)
      · exact absurd e q.2
      · injection q with q1 q2; exact q2.symm
    · intro q
      refine .inr ⟨by rw [q]; exact hw, by rw [e, q]⟩
  · rw [if_neg e, tx_mem h hw]
    constructor
    · rintro (q | ⟨_, q⟩)
      · exact q.1
      · injection q with q1 q2; exact absurd q1 e
    · intro q; exact .inl ⟨q, e⟩
def DisC (cs : List Ch) : Prop := cs.Pairwise fun a b => a.key ≠ b.key
def runC : List En → List Ch → Option (List En)
  | l, [] => some l
  | l, c :: cs => if txE l c.key = c.fr then runC (stepC l c) cs else none
theorem run_some : ∀ {cs : List Ch} {l m : List En}, Rg l → (∀ c ∈ cs, okC c = true) → DisC cs → runC l cs = some m →
    Rg m ∧ (∀ c ∈ cs, txE l c.key = c.fr ∧ txE m c.key = c.tt) ∧ ∀ k, (∀ c ∈ cs, c.key ≠ k) → txE m k = txE l k
  | [], l, m, h, _, _, e => by
    rw [runC] at e
    obtain rfl := Option.some.inj e
    exact ⟨h, fun c hc => (by cases hc), fun _ _ => rfl⟩
  | c :: cs, l, m, h, hc, hd, e => by
    rw [runC] at e
    split at e
    · rename_i hf
      have hd' := List.pairwise_cons.1 hd
      have hc0 := hc c (by simp)
      obtain ⟨a, b, d⟩ := run_some (step_rg h hc0) (fun q hq => hc q (List.mem_cons_of_mem _ hq)) hd'.2 e
      refine ⟨a, fun q hq => ?_, fun k hk => ?_⟩
      · rcases List.mem_cons.1 hq with rfl | hq
        · refine ⟨hf, ?_⟩
          rw [d q.key fun x hx => (hd'.1 x hx).symm, step_tx h hc0, if_pos rfl]
        · have := b q hq
          rw [step_tx h hc0, if_neg (hd'.1 q hq).symm] at this
          exact this
      · rw [d k fun x hx => hk x (List.mem_cons_of_mem _ hx), step_tx h hc0, if_neg fun e => hk c (by simp) e.symm]
    · cases e
def chN (l m : List En) : Nat → List Ch
  | 0 => []
  | n + 1 => chN l m n ++ (if txE l (n : Int) = txE m (n : Int) then [] else [⟨(n : Int), txE l (n : Int), txE m (n : Int)⟩])
theorem chN_len {l m : List En} : ∀ n : Nat, (chN l m n).length ≤ n
  | 0 => Nat.le_refl _
  | n + 1 => by
    have := chN_len (l := l) (m := m) n
    rw [chN, List.length_append]
    split
    · rw [List.length_nil]; omega
    · rw [List.length_singleton]; omega
def turnC (c : Ch) : Ch := ⟨c.key, c.tt, c.fr⟩
open Classical in
noncomputable def pAplR (room : Nat) (s : Sh) (h : Int) (cs : List Ch) : Sh × Int × Nat := match hasT s h with
  | none => (s, 0, 1)
  | some l => if (∃ c ∈ cs, okC c = false) then (s, 0, 1) else if ¬ DisC cs then (s, 0, 5) else match runC l cs with
    | none => (s, 0, 7)
    | some m => pBldR room s m
theorem apl_none {room : Nat} {s : Sh} {h : Int} {cs : List Ch} (e : hasT s h = none) : pAplR room s h cs = (s, 0, 1) := by unfold pAplR; rw [e]
theorem apl_bad {room : Nat} {s : Sh} {h : Int} {cs : List Ch} {l : List En} (e : hasT s h = some l) {c : Ch} (hc : c ∈ cs) (ho : okC c = false) : pAplR room s h cs = (s, 0, 1) := by
  unfold pAplR
  rw [e]
  exact if_pos ⟨c, hc, ho⟩
theorem all_ok {cs : List Ch} (hc : ∀ c ∈ cs, okC c = true) : ¬ ∃ c ∈ cs, okC c = false := fun ⟨c, h, e⟩ => by rw [hc c h] at e; cases e
theorem apl_dup {room : Nat} {s : Sh} {h : Int} {cs : List Ch} {l : List En} (e : hasT s h = some l) (hc : ∀ c ∈ cs, okC c = true) (hd : ¬ DisC cs) : pAplR room s h cs = (s, 0, 5) := by
  unfold pAplR
  rw [e]
  exact (if_neg (all_ok hc)).trans (if_pos hd)
theorem apl_clash {room : Nat} {s : Sh} {h : Int} {cs : List Ch} {l : List En} (e : hasT s h = some l) (hc : ∀ c ∈ cs, okC c = true) (hd : DisC cs) (hr : runC l cs = none) : pAplR room s h cs = (s, 0, 7) := by
  unfold pAplR
  rw [e]
  refine (if_neg (all_ok hc)).trans ((if_neg (fun q => q hd)).trans ?_)
  rw [hr]
theorem apl_yes {room : Nat} {s : Sh} {h : Int} {cs : List Ch} {l m : List En} (e : hasT s h = some l) (hc : ∀ c ∈ cs, okC c = true) (hd : DisC cs) (hr : runC l cs = some m) : pAplR room s h cs = putT room s (sortK m 1024) := by
  unfold pAplR
  rw [e]
  refine (if_neg (all_ok hc)).trans ((if_neg (fun q => q hd)).trans ?_)
  rw [hr]
  have hm := (run_some (rg_of (hasT_is e).1) hc hd hr).1
  exact bld_yes hm.1 hm.2
end Go.Proofs.YtjgjacihdggimaaGreatDoor
namespace Go.Proofs.YtjgjacihdggimaaGreatDoor
open Go.RowKit
def chW (c : Ch) : List Value := [.int .i64 c.key, .string ⟨c.fr.toArray⟩, .string ⟨c.tt.toArray⟩]
theorem chW_one : ∀ q : Ch, ∀ u ∈ chW q, u.oneCell' = true := by
  intro q u hu
  simp only [chW, List.mem_cons, List.not_mem_nil, or_false] at hu
  rcases hu with rfl | rfl | rfl <;> rfl
def RowC (w : World) (P : Nat → Prop) (A : Option Addr) (l : List Ch) : Prop := l = [] ∨ ∃ g o, A = some ⟨g, o, none⟩ ∧ P g ∧ g < w.heap.size ∧ AtR chW 3 w g o l
section
variable {w w' : World} {P Q : Nat → Prop} {A : Option Addr} {l : List Ch}
theorem RowC.kept (h : RowC w P A l) (hk : Kept w w' P) : RowC w' P A l := by
  rcases h with h | ⟨g, o, rfl, hp, hl, hc⟩
  · exact .inl h
  · exact .inr ⟨g, o, rfl, hp, Nat.lt_of_lt_of_le hl hk.size, fun i x hi j u hj => hk.cell hp (hc i x hi j u hj)⟩
theorem RowC.mono (h : RowC w P A l) (hpq : ∀ g, P g → g < w.heap.size → Q g) : RowC w Q A l := by
  rcases h with h | ⟨g, o, rfl, hp, hl, hc⟩
  · exact .inl h
  · exact .inr ⟨g, o, rfl, hpq g hp hl, hl, hc⟩
theorem RowC.below (h : RowC w P A l) (hb : Below w.heap.size w w') : RowC w' P A l := h.kept (Kept.of_below hb)
theorem RowC.at (h : RowC w P A l) {i : Nat} (hi : i < l.length) : ∃ g o, A = some ⟨g, o, none⟩ ∧ P g ∧ g < w.heap.size ∧ AtR chW 3 w g o l := by
  rcases h with rfl | h
  · simp at hi
  · exact h
theorem AtR.three {g o : Nat} (h : AtR chW 3 w g o l) {i : Nat} {x : Ch} (hi : l[i]? = some x) : w.cell? ⟨g, o + i * 3, none⟩ = some (.int .i64 x.key) ∧ w.cell? ⟨g, o + i * 3 + 1, none⟩ = some (.string ⟨x.fr.toArray⟩) ∧ w.cell? ⟨g, o + i * 3 + 2, none⟩ = some (.string ⟨x.tt.toArray⟩) :=
  ⟨h i x hi 0 _ rfl, h i x hi 1 _ rfl, h i x hi 2 _ rfl⟩
theorem own_rowC {E : TypeId} {base : Nat} {v : Value} {L : List Ch} (h : OwnR E 3 chW base w v L) : ∃ (A : Option Addr) (cap : Nat), v = .slice A L.length cap ∧ L.length ≤ cap ∧ RowC w (fun g => base ≤ g) A L := by
  obtain ⟨A, cap, rfl, hc, _⟩ := OwnR.shape (f := chW) (fun _ => rfl) h
  refine ⟨A, cap, rfl, hc, ?_⟩
  rcases Nat.eq_zero_or_pos L.length with e | e
  · exact .inl (List.length_eq_zero_iff.1 e)
  · obtain ⟨g, cap', hv, hb, hg⟩ := World.ownsRow.form h e
    have ha := OwnR.at (f := chW) (fun _ => rfl) (hv ▸ h) rfl
    simp at hv
    exact .inr ⟨g, 0, hv.1, hb, hg, ha⟩
end
/- what two lists of handles both have -/
def bothC (l m : List Int) : Nat := (l.map fun x => m.count x).sum
theorem both_next {l m : List Int} {i : Nat} {x : Int} (hx : l[i]? = some x) : bothC (l.take (i + 1)) m = bothC (l.take i) m + m.count x := by
  unfold bothC
  rw [List.take_add_one, hx, List.map_append, List.sum_append]
  rfl
theorem count_next {m : List Int} {k : Nat} {x y : Int} (hy : m[k]? = some y) : (m.take (k + 1)).count x = (m.take k).count x + if x = y then 1 else 0 := by
  rw [List.take_add_one, hy, List.count_append]
  congr 1
  by_cases e : x = y
  · rw [if_pos e, e]; simp
  · rw [if_neg e]; exact List.count_eq_zero.2 fun h => e (List.mem_singleton.1 h)
theorem both_len (l m : List Int) : bothC l m ≤ l.length * m.length := by
  unfold bothC
  induction l with
  | nil => simp
  | cons x l ih =>
    rw [List.map_cons, List.sum_cons, List.length_cons, Nat.add_mul, Nat.one_mul, Nat.add_comm]
    exact Nat.add_le_add ih (List.count_le_length)
end Go.Proofs.YtjgjacihdggimaaGreatDoor
namespace Go.Proofs.YtjgjacihdggimaaGreatDoor
theorem reach_rise (s : Sh) (l : List Int) : (reachA s l).Pairwise (· < ·) := (liveF_up _ 1).1
def AhB (l m : List Int) (i k : Nat) : Prop := ∀ y ∈ m.take k, ∀ x ∈ l.drop i, y < x
def NoB (m : List Int) (x : Int) (k : Nat) : Prop := ∀ y ∈ m.take k, y ≤ x
theorem ahB_zero (l m : List Int) : AhB l m 0 0 := fun y hy => by rw [List.take_zero] at hy; cases hy
theorem ahB_no {l m : List Int} {i k : Nat} {x : Int} (h : AhB l m i k) (hx : l[i]? = some x) : NoB m x k := fun y hy => by
  obtain ⟨h1, e⟩ := List.getElem?_eq_some_iff.1 hx
  have : x ∈ l.drop i := by rw [List.drop_eq_getElem_cons h1, e]; exact List.mem_cons_self
  exact Int.le_of_lt (h y hy x this)
theorem noB_next {m : List Int} {x y : Int} {k : Nat} (h : NoB m x k) (hy : m[k]? = some y) (hxy : y ≤ x) : NoB m x (k + 1) := fun z hz => by
  rw [List.take_add_one, hy] at hz
  rcases List.mem_append.1 hz with e | e
  · exact h z e
  · obtain rfl : z = y := by simpa using e
    exact hxy
theorem noB_ah {l m : List Int} (hl : l.Pairwise (· < ·)) {i k : Nat} {x : Int} (hx : l[i]? = some x) (h : NoB m x k) : AhB l m (i + 1) k := fun y hy z hz => by
  have h1 := h y hy
  obtain ⟨hi, e⟩ := List.getElem?_eq_some_iff.1 hx
  have h2 : x < z := by
    have hd : (l.drop i).Pairwise (· < ·) := hl.sublist (List.drop_sublist _ _)
    rw [List.drop_eq_getElem_cons hi, e] at hd
    exact (List.pairwise_cons.1 hd).1 z hz
  omega
theorem cnt_end {m : List Int} (hm : m.Pairwise (· < ·)) {k : Nat} {x : Int} (h : ∀ y, m[k]? = some y → x < y) : m.count x = (m.take k).count x := by
  conv => lhs; rw [← List.take_append_drop k m, List.count_append]
  have h0 : (m.drop k).count x = 0 := by
    refine List.count_eq_zero.2 fun hx => ?_
    by_cases hk : k < m.length
    · have hd : (m.drop k).Pairwise (· < ·) := hm.sublist (List.drop_sublist _ _)
      rw [List.drop_eq_getElem_cons hk] at hd hx
      have h1 := h _ (List.getElem?_eq_getElem hk)
      rcases List.mem_cons.1 hx with e | e
      · omega
      · have := (List.pairwise_cons.1 hd).1 x e; omega
    · rw [List.drop_eq_nil_of_le (by omega)] at hx; cases hx
  rw [h0]; rfl
theorem both_end {l m : List Int} (hm : m.Pairwise (· < ·)) {i k : Nat} {x : Int} (hx : l[i]? = some x) (h : ∀ y, m[k]? = some y → x < y) : bothC (l.take i) m + (m.take k).count x = bothC (l.take (i + 1)) m := by
  rw [both_next hx, cnt_end hm h]
theorem cnt_yes {m : List Int} {k : Nat} {x : Int} (hy : m[k]? = some x) : (m.take (k + 1)).count x = (m.take k).count x + 1 := by rw [count_next hy, if_pos rfl]
theorem cnt_no {m : List Int} {k : Nat} {x y : Int} (hy : m[k]? = some y) (h : x ≠ y) : (m.take (k + 1)).count x = (m.take k).count x := by rw [count_next hy, if_neg h]; rfl
theorem cnt_ah {l m : List Int} {i k : Nat} {x : Int} (h : AhB l m i k) (hx : l[i]? = some x) : (m.take k).count x = 0 := List.count_eq_zero.2 fun hm => by
  obtain ⟨h1, e⟩ := List.getElem?_eq_some_iff.1 hx
  have : x ∈ l.drop i := by rw [List.drop_eq_getElem_cons h1, e]; exact List.mem_cons_self
  exact absurd (h x hm x this) (by omega)
noncomputable def shR (s : Sh) (x y : Int) : Nat := if (hasT s x).isSome = true ∧ (hasT s y).isSome = true then bothC (reachA s [x]) (reachA s [y]) else 0
theorem shR_no {s : Sh} {x y : Int} (h : (hasT s x).isSome = false ∨ (hasT s y).isSome = false) : shR s x y = 0 := by
  unfold shR
  refine if_neg fun q => ?_
  rcases h with e | e
  · rw [e] at q; cases q.1
  · rw [e] at q; cases q.2
theorem shR_yes {s : Sh} {x y : Int} (h1 : (hasT s x).isSome = true) (h2 : (hasT s y).isSome = true) : shR s x y = bothC (reachA s [x]) (reachA s [y]) := if_pos ⟨h1, h2⟩
end Go.Proofs.YtjgjacihdggimaaGreatDoor
namespace Go.Proofs.YtjgjacihdggimaaGreatDoor
open Go.RowKit
def ofR (N : Nat) : Option (List En) → Option (List En) → List Ch × Int
  | some l, some m => (chN l m N, 0)
  | _, _ => ([], 1)
theorem ofR_none {N : Nat} {r q : Option (List En)} (h : r = none ∨ q = none) : ofR N r q = ([], 1) := by
  rcases h with rfl | rfl
  · rfl
  · cases r <;> rfl
def DofP (w : World) (r : List Ch × Int) (e : Ending) (w' : World) : Prop :=
  ∃ O co, e = .returned (.tuple #[.slice O r.1.length co, .int .i64 r.2]) ∧ r.1.length ≤ co ∧ RowC w' (fun g => w.heap.size ≤ g) O r.1 ∧ Below w.heap.size w w'
theorem DofP.not {w w' : World} (hb : Below w.heap.size w w') {r : List Ch × Int} (hr : r = ([], 1)) : DofP w r (.returned (.tuple #[.slice none 0 0, .int .i64 1])) w' := by
  subst hr
  exact ⟨none, 0, rfl, Nat.le_refl _, .inl rfl, hb⟩
theorem chN_next_no {l m : List En} {n : Nat} (h : txE l (n : Int) = txE m (n : Int)) : chN l m (n + 1) = chN l m n := by rw [chN, if_pos h, List.append_nil]
theorem chN_next_yes {l m : List En} {n : Nat} (h : txE l (n : Int) ≠ txE m (n : Int)) : chN l m (n + 1) = chN l m n ++ [⟨(n : Int), txE l (n : Int), txE m (n : Int)⟩] := by rw [chN, if_neg h]
end Go.Proofs.YtjgjacihdggimaaGreatDoor
namespace Go.Proofs.YtjgjacihdggimaaGreatDoor
theorem bld_self {l : List En} (h : OkL l) : entX (bldF l) 1024 = l := by
  have e := sort_is h.1 (ok_dis h)
  rw [sort_self h] at e
  exact e.symm
theorem bld_ent {room : Nat} {s : Sh} {f : Txs} (hok : OkX f) : pBldR room s (entX f 1024) = putT room s (entX f 1024) := by
  have h := entX_ok hok 1024 (Nat.le_refl _)
  rw [bld_yes h.1 (ok_dis h), sort_self h]
theorem tx_ent {f : Txs} (hok : OkX f) {k : Nat} (hk : k < 1024) : txE (entX f 1024) (k : Int) = f k := by
  unfold txE
  rw [getX hok (Nat.le_refl _) hk]
  split
  · rename_i e; rw [e]; rfl
  · rfl
theorem ent_sort {f : Txs} (hok : OkX f) {m : List En} (hm : Rg m) (h : ∀ k : Nat, k < 1024 → f k = txE m (k : Int)) : entX f 1024 = sortK m 1024 := by
  have h1 := entX_ok hok 1024 (Nat.le_refl _)
  rw [← sort_self h1]
  refine rg_ext (rg_of h1) hm fun k h0 h9 => ?_
  obtain ⟨j, rfl⟩ : ∃ j : Nat, k = (j : Int) := ⟨k.toNat, by omega⟩
  rw [tx_ent hok (by omega), h j (by omega)]
theorem chN_fn_no {f g : Txs} (hf : OkX f) (hg : OkX g) {i : Nat} (hi : i < 1024) (h : f i = g i) : chN (entX f 1024) (entX g 1024) (i + 1) = chN (entX f 1024) (entX g 1024) i :=
  chN_next_no (by rw [tx_ent hf hi, tx_ent hg hi, h])
theorem chN_fn_yes {f g : Txs} (hf : OkX f) (hg : OkX g) {i : Nat} (hi : i < 1024) (h : f i ≠ g i) : chN (entX f 1024) (entX g 1024) (i + 1) = chN (entX f 1024) (entX g 1024) i ++ [⟨(i : Int), f i, g i⟩] := by
  rw [chN_next_yes (by rw [tx_ent hf hi, tx_ent hg hi]; exact h), tx_ent hf hi, tx_ent hg hi]
theorem set_step {f : Txs} {H : List En} {c : Ch} (hH : Rg H) (hc : okC c = true) (h : ∀ k : Nat, k < 1024 → f k = txE H (k : Int)) : ∀ k : Nat, k < 1024 → setX f c.key.toNat c.tt k = txE (stepC H c) (k : Int) := fun k hk => by
  have hk0 := okC_iff.1 hc
  rw [step_tx hH hc]
  unfold setX
  by_cases e : k = c.key.toNat
  · rw [if_pos e, if_pos (by omega)]
  · rw [if_neg e, if_neg (by omega), h k hk]
theorem at_step {f : Txs} {H : List En} {c : Ch} (hc : okC c = true) (h : ∀ k : Nat, k < 1024 → f k = txE H (k : Int)) : f c.key.toNat = txE H c.key := by
  have hk0 := okC_iff.1 hc
  rw [h _ (by omega), show ((c.key.toNat : Nat) : Int) = c.key by omega]
end Go.Proofs.YtjgjacihdggimaaGreatDoor
namespace Go.Proofs.YtjgjacihdggimaaGreatDoor
def dvA : List En := [⟨1, [97]⟩, ⟨2, [98]⟩, ⟨9, [99]⟩]
def dvB : List En := [⟨2, [98]⟩, ⟨9, [100]⟩, ⟨7, [101]⟩]
def dvL : List En := [⟨2, [98]⟩, ⟨7, [101]⟩, ⟨9, [100]⟩]
def dvC : List Ch := [⟨1, [97], []⟩, ⟨7, [], [101]⟩, ⟨9, [99], [100]⟩]
def dvS1 : Sh := (putT 30 [] dvA).1
def dvS2 : Sh := (putT 30 dvS1 dvL).1
theorem dvOkA : OkL dvA := ⟨by decide, by decide⟩
theorem dvOkL : OkL dvL := ⟨by decide, by decide⟩
theorem dvT1 : putT 30 [] dvA = (dvS1, 4, 0) := by kernel_rfl
theorem dvT2 : putT 30 dvS1 dvL = (dvS2, 7, 0) := by kernel_rfl
theorem dvT3 : putT 30 dvS2 dvL = (dvS2, 7, 0) := by kernel_rfl
theorem dvC1 : szT' (trK 2 dvA) = 4 := by kernel_rfl
theorem dvC2 : szT' (trK 2 dvL) = 4 := by kernel_rfl
theorem dvN1 : cntS dvS1 = 4 := by kernel_rfl
theorem dvI : IsT dvS1 4 dvA ∧ Inv 30 dvS1 ∧ IsT dvS2 7 dvL ∧ Inv 30 dvS2 ∧ Up dvS1 dvS2 := by
  obtain ⟨_, a2, a3, a4, _, _⟩ := putT_good (inv_nil 30) dvOkA (by decide) (Nat.le_trans (Nat.add_le_add_left (cost_sz _ _) _) (by rw [dvC1]; decide))
  rw [dvT1] at a2 a3 a4
  obtain ⟨_, b2, b3, b4, _, _⟩ := putT_good a3 dvOkL (by decide) (Nat.le_trans (Nat.add_le_add_left (cost_sz _ _) _) (by rw [dvC2]; show cntS dvS1 + 4 ≤ 30; rw [dvN1]; decide))
  rw [show (dvS1, (4 : Int), 0).1 = dvS1 from rfl, dvT2] at b2 b3 b4
  exact ⟨a2, a3, b2, b3, b4⟩
theorem dvB1 : pBldR 30 [] dvA = (dvS1, 4, 0) := by
  rw [bld_yes dvOkA.1 (ok_dis dvOkA), sort_self dvOkA, dvT1]
theorem dvB2 : pBldR 30 dvS1 dvB = (dvS2, 7, 0) := by
  have hr : ∀ x ∈ dvB, rightE x = true := by decide
  have hd : DisK dvB := by unfold DisK; decide
  rw [bld_yes hr hd, ← dvT2]
  refine congrArg (putT 30 dvS1) ?_
  refine (sort_ok hr hd).eq dvOkL fun y => ?_
  rw [(sortK_perm (keyIn_of hr)).mem_iff]
  simp only [dvB, dvL, List.mem_cons, List.not_mem_nil, or_false]
  constructor
  · rintro (e | e | e)
    · exact .inl e
    · exact .inr (.inr e)
    · exact .inr (.inl e)
  · rintro (e | e | e)
    · exact .inl e
    · exact .inr (.inr e)
    · exact .inr (.inl e)
theorem dvH1 : hasT dvS2 4 = some dvA := hasT_some (isT_up dvI.2.2.2.2 dvI.1)
theorem dvH2 : hasT dvS2 7 = some dvL := hasT_some dvI.2.2.1
theorem dvCN : chN dvA dvL 1024 = dvC := by kernel_rfl
theorem dvOf : ofR 1024 (hasT dvS2 4) (hasT dvS2 7) = (dvC, 0) := by rw [dvH1, dvH2]; show (chN dvA dvL 1024, (0 : Int)) = _; rw [dvCN]
theorem dvOkC : ∀ c ∈ dvC, okC c = true := by decide
theorem dvDis : DisC dvC := by unfold DisC; decide
theorem dvAp1 : pAplR 30 dvS2 4 dvC = (dvS2, 7, 0) := by
  rw [apl_yes dvH1 dvOkC dvDis (show runC dvA dvC = some dvL by kernel_rfl), sort_self dvOkL, dvT3]
theorem dvAp2 : pAplR 30 dvS2 7 dvC = (dvS2, 0, 7) := apl_clash dvH2 dvOkC dvDis (by kernel_rfl)
theorem rise_eq {l m : List Int} (h : l.Pairwise (· < ·)) (k : m.Pairwise (· < ·)) (hm : ∀ x, x ∈ l ↔ x ∈ m) : l = m := by
  have hp := (List.perm_ext_iff_of_nodup (h.imp fun {a b} hab e => by omega) (k.imp fun {a b} hab e => by omega)).2 hm
  refine hp.eq_of_pairwise (le := fun a b => a < b) (fun a b _ _ h1 h2 => ?_) h k
  omega
theorem dvLf {h : Int} {n : Nd} (hn : ndAt dvS2 h = some n) (hr : n.refs = []) (x : Int) : Rch dvS2 [h] x ↔ x = h := by
  rw [rch_from dvI.2.2.2.1 hn, hr]
  constructor
  · rintro (e | ⟨r, hr, _⟩)
    · exact e
    · cases hr
  · exact .inl
theorem dvFk {h a b c : Int} {n : Nd} (hn : ndAt dvS2 h = some n) (hr : n.refs = [a, b, c]) {na nb nc : Nd} (ha : ndAt dvS2 a = some na) (hb : ndAt dvS2 b = some nb) (hc : ndAt dvS2 c = some nc) (ra : na.refs = []) (rb : nb.refs = []) (rc : nc.refs = []) (la : live dvS2 a = true) (lb : live dvS2 b = true) (lc : live dvS2 c = true) (x : Int) :
    Rch dvS2 [h] x ↔ x = h ∨ x = a ∨ x = b ∨ x = c := by
  rw [rch_from dvI.2.2.2.1 hn, hr]
  constructor
  · rintro (e | ⟨r, hr, _, q⟩)
    · exact .inl e
    · simp only [List.mem_cons, List.not_mem_nil, or_false] at hr
      rcases hr with rfl | rfl | rfl
      · exact .inr (.inl ((dvLf ha ra x).1 q))
      · exact .inr (.inr (.inl ((dvLf hb rb x).1 q)))
      · exact .inr (.inr (.inr ((dvLf hc rc x).1 q)))
  · rintro (e | e | e | e)
    · exact .inl e
    · exact .inr ⟨a, by simp, la, (dvLf ha ra x).2 e⟩
    · exact .inr ⟨b, by simp, lb, (dvLf hb rb x).2 e⟩
    · exact .inr ⟨c, by simp, lc, (dvLf hc rc x).2 e⟩
theorem dvN4 : ndAt dvS2 4 = some ⟨3, [1, 2, 3], [17826304], []⟩ := by kernel_rfl
theorem dvN7 : ndAt dvS2 7 = some ⟨3, [1, 5, 6], [16810496], []⟩ := by kernel_rfl
theorem dvNl1 : ndAt dvS2 1 = some ⟨1, [], [2], [98]⟩ := by kernel_rfl
theorem dvNl2 : ndAt dvS2 2 = some ⟨1, [], [1], [97]⟩ := by kernel_rfl
theorem dvNl3 : ndAt dvS2 3 = some ⟨1, [], [9], [99]⟩ := by kernel_rfl
theorem dvNl5 : ndAt dvS2 5 = some ⟨1, [], [7], [101]⟩ := by kernel_rfl
theorem dvNl6 : ndAt dvS2 6 = some ⟨1, [], [9], [100]⟩ := by kernel_rfl
theorem dvR1 : reachA dvS2 [4] = [1, 2, 3, 4] := rise_eq (reach_rise _ _) (by decide) fun x => by
  rw [reach_mem dvI.2.2.2.1, dvFk dvN4 rfl dvNl1 dvNl2 dvNl3 rfl rfl rfl (by kernel_rfl) (by kernel_rfl) (by kernel_rfl) x]
  simp only [List.mem_cons, List.not_mem_nil, or_false]
  omega
theorem dvR2 : reachA dvS2 [7] = [1, 5, 6, 7] := rise_eq (reach_rise _ _) (by decide) fun x => by
  rw [reach_mem dvI.2.2.2.1, dvFk dvN7 rfl dvNl1 dvNl5 dvNl6 rfl rfl rfl (by kernel_rfl) (by kernel_rfl) (by kernel_rfl) x]
  simp only [List.mem_cons, List.not_mem_nil, or_false]
  omega
theorem dvSh : shR dvS2 4 7 = 1 := by
  rw [shR_yes (by rw [dvH1]; rfl) (by rw [dvH2]; rfl), dvR1, dvR2]
  decide
end Go.Proofs.YtjgjacihdggimaaGreatDoor
namespace Go.Proofs.YtjgjacihdggimaaGreatDoor
open Go.RowKit
theorem step_load_texts {w : World} {ops : Array Oper} {o : Oper} {a : Act} {K : Act → World → Prop} {Q : Exit → Act → World → Prop} {E0 : Prop} (hgd : o.guard = none) (x : Operand) (ho : o.op = .load 72 x)
    (g : Nat) (hx : a.eval x = .pointer (some ⟨g, 0, none⟩)) {f : Txs} (hg : TX w g f) (h : K (a.put o.dst (.agg (txC f))) w) :
    if Region.wanted o (yielded ops a.tmps) = true then Oper.wp Tryz.prog o a w K Q else E0 := by
  have hw : Region.wanted o (yielded ops a.tmps) = true := by simp [Region.wanted, hgd]
  rw [if_pos hw]
  exact wp_load_row 72 x ho g hx 72 (txC f) (0, 0) _ hg texts_under rfl (by rw [texts_info, txC_size]) h
theorem step_store_texts {w : World} {ops : Array Oper} {o : Oper} {a : Act} {K : Act → World → Prop} {Q : Exit → Act → World → Prop} {E0 : Prop} (hgd : o.guard = none) (x y : Operand) (ho : o.op = .store 72 x y)
    (g : Nat) (hx : a.eval x = .pointer (some ⟨g, 0, none⟩)) {f f0 : Txs} (hy : a.eval y = .agg (txC f)) (hg : TX w g f0) (h : K (a.put o.dst undef) (w.setRow g (txC f))) :
    if Region.wanted o (yielded ops a.tmps) = true then Oper.wp Tryz.prog o a w K Q else E0 := by
  have hw : Region.wanted o (yielded ops a.tmps) = true := by simp [Region.wanted, hgd]
  rw [if_pos hw]
  exact wp_store_row 72 x y ho g (txC f) hx hy 72 (txC f0) hg (by rw [texts_info, txC_size]) (by rw [txC_size, txC_size]) (txC_one f) h
theorem results_two {fn : Func} {p q : Tmp} (h : fn.results = #[.cell p 72, .tmp q]) (tmps : Array Value) (w : World) (g : Nat) {f : Txs} (hp : tmps.getD p undef = .pointer (some ⟨g, 0, none⟩)) (hg : TX w g f) :
    (results fn tmps).run Tryz.prog w = .ok (.tuple #[.agg (txC f), tmps.getD q undef]) w := by
  have hp' : tmps[p]?.getD undef = .pointer (some ⟨g, 0, none⟩) := by simpa using hp
  have hl := run_loadVar_row (P := Tryz.prog) w g 72 72 (txC f) (0, 0) _ hg texts_under rfl (by rw [texts_info, txC_size])
  simp [results, h, hp', asAddr, hl]
end Go.Proofs.YtjgjacihdggimaaGreatDoor
namespace Go.Proofs.YtjgjacihdggimaaGreatDoor
open Go.RowKit
theorem dtx_zero : Tryz.zeroCells80 = txC (fun _ => []) := by
  rw [txC_nil]; kernel_rfl
theorem dtx_under : Tryz.prog.underlying 80 = some (.array 1024 9) := by kernel_rfl
theorem dtx_info : (Tryz.prog.info? 80).map (·.size) = some 1024 := by kernel_rfl
def TD (w : World) (B : Nat) (f : Txs) : Prop := w.heap[B]? = some (.cells (txC f) 80 (0, 0))
theorem TD.lt {w : World} {B : Nat} {f : Txs} (h : TD w B f) : B < w.heap.size := (Array.getElem?_eq_some_iff.1 h).1
theorem TD.cell {w : World} {B : Nat} {f : Txs} (h : TD w B f) {j : Nat} (hj : j < 1024) : w.cell? ⟨B, j, none⟩ = some (.string ⟨(f j).toArray⟩) := by
  rw [Lib.cell_of_heap h j]; exact txC_at f hj
theorem TD.frozen {w : World} {B : Nat} {f : Txs} (h : TD w B f) (j : Nat) : w.frozen? ⟨B, j, none⟩ = false := by
  unfold World.frozen?; rw [show w.heap[B]? = _ from h]; simp
theorem TD.world {w w' : World} {B : Nat} {f : Txs} (h : TD w B f) (hb : w'.heap[B]? = w.heap[B]?) : TD w' B f := hb.trans h
theorem TD.below {w w' : World} {B : Nat} {f : Txs} (h : TD w B f) (hb : Below w.heap.size w w') : TD w' B f := h.world (hb.block B h.lt)
theorem TD.set {w : World} {B : Nat} {f : Txs} (h : TD w B f) {j : Nat} (hj : j < 1024) (v : List UInt8) : TD (w.setCell ⟨B, j, none⟩ (.string ⟨v.toArray⟩)) B (setX f j v) := by
  unfold TD
  rw [row_set h, txC_set f j hj v]
theorem TD.congr {w : World} {B : Nat} {f g : Txs} (h : TD w B f) (hg : ∀ k : Nat, k < 1024 → f k = g k) : TD w B g := by
  unfold TD; rw [← txC_congr hg]; exact h
theorem step_load_dtx {w : World} {ops : Array Oper} {o : Oper} {a : Act} {K : Act → World → Prop} {Q : Exit → Act → World → Prop} {E0 : Prop} (hgd : o.guard = none) (x : Operand) (ho : o.op = .load 80 x)
    (g : Nat) (hx : a.eval x = .pointer (some ⟨g, 0, none⟩)) {f : Txs} (hg : TD w g f) (h : K (a.put o.dst (.agg (txC f))) w) :
    if Region.wanted o (yielded ops a.tmps) = true then Oper.wp Tryz.prog o a w K Q else E0 := by
  have hw : Region.wanted o (yielded ops a.tmps) = true := by simp [Region.wanted, hgd]
  rw [if_pos hw]
  exact wp_load_row 80 x ho g hx 80 (txC f) (0, 0) _ hg dtx_under rfl (by rw [dtx_info, txC_size]) h
theorem step_store_dtx {w : World} {ops : Array Oper} {o : Oper} {a : Act} {K : Act → World → Prop} {Q : Exit → Act → World → Prop} {E0 : Prop} (hgd : o.guard = none) (x y : Operand) (ho : o.op = .store 80 x y)
    (g : Nat) (hx : a.eval x = .pointer (some ⟨g, 0, none⟩)) {f f0 : Txs} (hy : a.eval y = .agg (txC f)) (hg : TD w g f0) (h : K (a.put o.dst undef) (w.setRow g (txC f))) :
    if Region.wanted o (yielded ops a.tmps) = true then Oper.wp Tryz.prog o a w K Q else E0 := by
  have hw : Region.wanted o (yielded ops a.tmps) = true := by simp [Region.wanted, hgd]
  rw [if_pos hw]
  exact wp_store_row 80 x y ho g (txC f) hx hy 80 (txC f0) hg (by rw [dtx_info, txC_size]) (by rw [txC_size, txC_size]) (txC_one f) h
theorem dresults_two {fn : Func} {p q : Tmp} (h : fn.results = #[.cell p 80, .tmp q]) (tmps : Array Value) (w : World) (g : Nat) {f : Txs} (hp : tmps.getD p undef = .pointer (some ⟨g, 0, none⟩)) (hg : TD w g f) :
    (results fn tmps).run Tryz.prog w = .ok (.tuple #[.agg (txC f), tmps.getD q undef]) w := by
  have hp' : tmps[p]?.getD undef = .pointer (some ⟨g, 0, none⟩) := by simpa using hp
  have hl := run_loadVar_row (P := Tryz.prog) w g 80 80 (txC f) (0, 0) _ hg dtx_under rfl (by rw [dtx_info, txC_size])
  simp [results, h, hp', asAddr, hl]
end Go.Proofs.YtjgjacihdggimaaGreatDoor
namespace Go.Proofs.YtjgjacihdggimaaGreatDoor
open Go.RowKit
theorem takes_next9 {α : Type} {a b : List α} {i : Nat} {x y : α} (ha : a[i]? = some x) (hb : b[i]? = some y) (h : a.take i = b.take i) (e : x = y) : a.take (i + 1) = b.take (i + 1) := by
  rw [List.take_add_one, List.take_add_one, ha, hb, h, e]
theorem takes_no9 {α : Type} {a b : List α} {i : Nat} {x y : α} (ha : a[i]? = some x) (hb : b[i]? = some y) (e : x ≠ y) : a ≠ b := fun h => by
  rw [h, hb] at ha; exact e (Option.some.inj ha).symm
set_option maxHeartbeats 2000000 in
set_option maxRecDepth 10000 in
theorem pequal_any (a b : List Int) (A B : Option Addr) (ca cb : Nat) (w : World) (P Q : Nat → Prop) (hA : RowI w P A a) (hB : RowI w Q B b) (hla : a.length ≤ maxLen) :
    Calls Tryz.prog 80 #[.slice A a.length ca, .slice B b.length cb] w fun e w' => e = .returned (.bool (decide (a = b))) ∧ Below w.heap.size w w' := by
  have HA := Lib.hid hA
  have HB := Lib.hid hB
  unfold maxLen at hla
  clear hA hB
  by_cases hl : a.length = b.length
  · have HLL := Lib.hid hl
    have hd : ((a.length : Int) != (b.length : Int)) = false := by rw [hl]; simp
    clear hl
    go_enter Tryz.func80, Tryz.ntmps80
    go_wp2_with fail
    go_loopw [13] (fun vi wr => ∃ i : Nat, i ≤ a.length ∧ vi = .int .i64 (i : Int) ∧ Hid (a.take i = b.take i) ∧ Below w.heap.size w wr) (fun vi _ => a.length - (RowKit.intOf vi).toNat)
    case atStart => exact ⟨0, Nat.zero_le _, rfl, Lib.hid rfl, Below.refl _ _⟩
    case round =>
      obtain ⟨i, hi, rfl, HT, hb⟩ := hrel
      by_cases hlt : i < a.length
      · have hlt2 : i < b.length := HLL.out ▸ hlt
        obtain ⟨g, o, rfl, _, _, hca⟩ := HA.out.at hlt
        obtain ⟨g2, o2, rfl, _, _, hcb⟩ := HB.out.at hlt2
        obtain ⟨x, hx⟩ : ∃ x, a[i]? = some x := ⟨_, List.getElem?_eq_getElem hlt⟩
        obtain ⟨y, hy⟩ : ∃ y, b[i]? = some y := ⟨_, List.getElem?_eq_getElem hlt2⟩
        have q0 := keep_cell hb (hca i x hx)
        have q1 := keep_cell hb (hcb i y hy)
        by_cases hxy : x = y
        · have HN := Lib.hid (takes_next9 hx hy HT.out hxy)
          subst hxy
          clear hx hy hca hcb
          go_wp2_with fail
          try go_quiet (fail)
          try go_wp2_with fail
          go_roundw
          case rel => exact ⟨i + 1, by omega, by go_num, HN, by first | exact hb | exact below_drewN hb _⟩
          case measure => simp [RowKit.intOf]; omega
        · have HN := Lib.hid (takes_no9 hx hy hxy)
          have hd2 : (x != y) = true := by simpa using hxy
          clear hx hy hca hcb
          go_wp2_with fail
          try go_quiet (fail)
          try go_wp2_with fail
          go_ret
          exact ⟨by rw [decide_eq_false HN.out]; rfl, by first | exact hb | exact below_drewN hb _⟩
      · have hii : i = a.length := by omega
        subst hii
        have hz := HT.out
        rw [List.take_length, HLL.out, List.take_length] at hz
        have HZ := Lib.hid hz
        clear hz
        go_wp2_with fail
        go_ret
        exact ⟨by rw [decide_eq_true HZ.out]; rfl, hb⟩
  · have hd : ((a.length : Int) != (b.length : Int)) = true := by simp; omega
    have HN : Hid (a ≠ b) := Lib.hid fun h => hl (by rw [h])
    clear hl
    go_enter Tryz.func80, Tryz.ntmps80
    go_wp2_with fail
    go_ret
    exact ⟨by rw [decide_eq_false HN.out]; rfl, Below.refl _ _⟩
end Go.Proofs.YtjgjacihdggimaaGreatDoor
namespace Go.Proofs.YtjgjacihdggimaaGreatDoor
open Go.RowKit Go.Maps
theorem a9Get {B : Nat} {w : World} {F : Nat → Prop} {a room : Nat} {s : Sh} (h : AP9 B w F a room s) (x : Int) (hx : -9223372036854775808 ≤ x ∧ x ≤ 9223372036854775807) :
    Calls Tryz.prog 64 #[.pointer (some ⟨a, 0, none⟩), .int .i64 x] w fun e w' => ∃ A1 ca1 B1 cb1, e = .returned (.tuple #[ndV (getN s x) A1 ca1 B1 cb1, .int .i64 (getE s x)]) ∧ RowI w' (fun g => w.heap.size ≤ g) A1 (getN s x).refs ∧ RowI w' (fun g => w.heap.size ≤ g) B1 (getN s x).nums ∧ Below w.heap.size w w' := by
  obtain ⟨K, ps, t, A, cS, bK, low, hA, hL, hF, hE, hO, hC, hB, hT⟩ := h
  refine (pGet_any hA hF x hx).mono fun e w' ⟨A1, ca1, B1, cb1, he, hr1, hr2, hb⟩ => ?_
  rw [hE.getNE, hE.getEE] at he
  rw [hE.getNE] at hr1 hr2
  exact ⟨A1, ca1, B1, cb1, he, hr1, hr2, hb⟩
theorem o9Get {w : World} {B a room : Nat} {K : Nat → Prop} {s : Sh} (h : On9 w B a room s K) (x : Int) (hx : -9223372036854775808 ≤ x ∧ x ≤ 9223372036854775807) :
    Calls Tryz.prog 64 #[.pointer (some ⟨a, 0, none⟩), .int .i64 x] w fun e w' => ∃ A1 ca1 B1 cb1, e = .returned (.tuple #[ndV (getN s x) A1 ca1 B1 cb1, .int .i64 (getE s x)]) ∧ RowI w' (fun g => w.heap.size ≤ g) A1 (getN s x).refs ∧ RowI w' (fun g => w.heap.size ≤ g) B1 (getN s x).nums ∧ Below w.heap.size w w' := by
  obtain ⟨F, h⟩ := h
  exact a9Get h.ap x hx
end Go.Proofs.YtjgjacihdggimaaGreatDoor
