/- Texts joined: NdY, NdZ, FrameA. -/
import Derived.Test.YtbjbbpbagnlkmaaDoorMp12
import Derived.Test.YtbjbbpbagnlkmaaDoorRows
import Derived.Test.YtbjbbpbagnlkmaaDoorMp11
import Derived.WalkKit
import Derived.ProofKit
import Derived.OpenShut
import Derived.Deep.DeepHandedRow
import Derived.Lib.LaidTab
import Derived.Stop.LaidErr
import Derived.Lib.SmallJoins
import Derived.LaidLaws
import Derived.Lib.LaidIn
set_option linter.all false
namespace Go.Proofs.YtbjbbpbagnlkmaaDoor
open Go.RowKit
theorem rowI_lit {w : World} {g : Nat} {cs : Array Value} {T : TypeId} {Q : Nat → Prop} {l : List Int} (hh : w.heap[g]? = some (.cells cs T (0, 0))) (hc : cs.toList = l.flatMap inW) (hQ : Q g) : RowI w Q (some ⟨g, 0, none⟩) l := by
  refine .inr ⟨g, 0, rfl, hQ, (Array.getElem?_eq_some_iff.1 hh).1, atR_row (fun i q hi j u hj => ?_)⟩
  rw [Nat.zero_add, Lib.cell_of_heap hh (i * 1 + j)]
  have := flatR_at (f := inW) (n := 1) (fun _ => rfl) l i q hi j u hj
  rw [← hc] at this
  simpa using this
theorem rowN_lit {w : World} {g : Nat} {cs : Array Value} {T : TypeId} {Q : Nat → Prop} {L : List NdM} {l : List Nd} (hh : w.heap[g]? = some (.cells cs T (0, 0))) (hc : cs.toList = L.flatMap ndW) (hl : L.map NdM.n = l) (hQ : Q g) (hr : ∀ q ∈ L, RowI w Q q.A q.n.refs ∧ RowI w Q q.B q.n.nums) : RowN w Q (some ⟨g, 0, none⟩) l := by
  subst hl
  have hat : AtR ndW 4 w g 0 L := fun i q hi j u hj => by
    rw [Nat.zero_add, Lib.cell_of_heap hh (i * 4 + j)]
    have := flatR_at (f := ndW) (n := 4) (fun _ => rfl) L i q hi j u hj
    rw [← hc] at this
    simpa using this
  refine .inr ⟨g, 0, rfl, hQ, (Array.getElem?_eq_some_iff.1 hh).1, fun i n hi => ?_⟩
  have := list_rows (w := w) (P := Q) (rows_atR hat) hr i n hi
  rwa [Nat.zero_add]
section
variable {EV : World → Prop} {AP : World → (Nat → Prop) → Nat → Nat → Sh → Prop}
structure AlK (AP : World → (Nat → Prop) → Nat → Nat → Sh → Prop) (w : World) (B : Nat) (F : Nat → Prop) (a room : Nat) (s : Sh) (K : Nat → Prop) : Prop where
  ap : AP w F a room s
  inv : Inv room s
  own : ∀ g, F g → B ≤ g ∧ g < w.heap.size
  keep : ∀ g, K g → g < w.heap.size ∧ ¬ F g
  base : B ≤ w.heap.size
variable {w w1 : World} {B a room : Nat} {F F' K : Nat → Prop} {s s' : Sh}
theorem AlK.op (hC : AC B EV AP) (h : AlK AP w B F a room s K) (haf : After AP w F a room s' w1 F') (hI : Inv room s') :
    AlK AP w1 B (fun g => F' g ∧ g < w1.heap.size) a room s' (fun g => K g ∨ (w.heap.size ≤ g ∧ g < w1.heap.size ∧ ¬ F' g)) ∧ Kept w w1 K ∧ Below B w w1 := by
  have hz := haf.2.2.size
  refine ⟨⟨hC.mono haf.1 fun g hg hl => ⟨hg, hl⟩, hI, fun g hg => ⟨?_, hg.2⟩, fun g hg => ?_, Nat.le_trans h.base hz⟩, haf.2.2.keptQ fun g hg => (h.keep g hg).2, haf.2.2.below (fun k hk hf => by have := h.own k hf; omega) h.base⟩
  · rcases haf.2.1 g hg.1 with q | q
    · exact (h.own g q).1
    · have := h.base; omega
  · rcases hg with hg | hg
    · have hk := h.keep g hg
      exact ⟨by omega, fun e => by
        rcases haf.2.1 g e.1 with q | q
        · exact hk.2 q
        · omega⟩
    · exact ⟨hg.2.1, fun e => hg.2.2 e.1⟩
theorem AlK.below (hC : AC B EV AP) (h : AlK AP w B F a room s K) (hb : Below w.heap.size w w1) : AlK AP w1 B F a room s (fun g => K g ∨ (w.heap.size ≤ g ∧ g < w1.heap.size)) ∧ Kept w w1 K ∧ Below B w w1 := by
  have hz := hb.size
  refine ⟨⟨hC.kept h.ap (Kept.of_below hb) (hb.mono h.base), h.inv, fun g hg => by have := h.own g hg; omega, fun g hg => ?_, Nat.le_trans h.base hz⟩, Kept.of_below hb, hb.mono h.base⟩
  rcases hg with hg | hg
  · have := h.keep g hg; exact ⟨by omega, this.2⟩
  · exact ⟨hg.2, fun e => by have := h.own g e; omega⟩
def Left (AP : World → (Nat → Prop) → Nat → Nat → Sh → Prop) (w : World) (B a room : Nat) (s : Sh) (K : Nat → Prop) (w' : World) (K' : Nat → Prop) : Prop :=
  (∃ F', AlK AP w' B F' a room s K') ∧ (∀ g, K g → K' g) ∧ Kept w w' K ∧ Below B w w'
def One (AP : World → (Nat → Prop) → Nat → Nat → Sh → Prop) (w : World) (B a room : Nat) (s : Sh) (K : Nat → Prop) : Prop := ∃ F, AlK AP w B F a room s K
theorem One.below (hC : AC B EV AP) (h : One AP w B a room s K) (hb : Below w.heap.size w w1) : One AP w1 B a room s (fun g => K g ∨ (w.heap.size ≤ g ∧ g < w1.heap.size)) ∧ Kept w w1 K ∧ Below B w w1 := by
  obtain ⟨F, h⟩ := h
  obtain ⟨h1, h2, h3⟩ := h.below hC hb
  exact ⟨⟨F, h1⟩, h2, h3⟩
theorem One.base (h : One AP w B a room s K) : B ≤ w.heap.size := by obtain ⟨F, h⟩ := h; exact h.base
theorem One.inv (h : One AP w B a room s K) : Inv room s := by obtain ⟨F, h⟩ := h; exact h.inv
theorem One.lt (h : One AP w B a room s K) {g : Nat} (hg : K g) : g < w.heap.size := by obtain ⟨F, h⟩ := h; exact (h.keep g hg).1
theorem oPut (hC : AC B EV AP) (h : One AP w B a room s K) (l : List Nd) (A : Option Addr) (ca : Nat) (hrow : RowN w K A l) (hlen : l.length ≤ 200) (hfit : ∀ n ∈ l, FitB n) {out : List Int} {c : Nat} (he : putA room s l = (s', out, c)) :
    Calls Tryd.prog 18 #[.pointer (some ⟨a, 0, none⟩), .slice A l.length ca] w fun e w' => ∃ O co K', e = .returned (.tuple #[.slice O out.length co, .int .i64 (c : Int)]) ∧ RowI w' K' O out ∧ One AP w' B a room s' K' ∧ (∀ g, K g → K' g) ∧ Kept w w' K ∧ Below B w w' := by
  obtain ⟨F, h⟩ := h
  have hI := (inv_put h.inv l).1
  have hc := hC.put h.ap h.inv l A ca hrow (fun g hg => (h.keep g hg).2) hlen hfit
  rw [he] at hI hc
  refine hc.mono fun e w' ⟨O, co, hr, F', r, haf⟩ => ?_
  obtain ⟨h1, h2, h3⟩ := h.op hC haf hI
  exact ⟨O, co, _, hr, r.mono fun g hg hl => .inr ⟨hg.1, hl, hg.2⟩, ⟨_, h1⟩, fun g hg => .inl hg, h2, h3⟩
theorem oSweep (hC : AC B EV AP) (h : One AP w B a room s K) (l : List Int) (A : Option Addr) (ca : Nat) (hrow : RowI w K A l) (hlen : l.length ≤ 1000) (hfit : B64s l) {n c : Nat} (he : sweepA s l = (s', n, c)) :
    Calls Tryd.prog 19 #[.pointer (some ⟨a, 0, none⟩), .slice A l.length ca] w fun e w' => ∃ K', e = .returned (.tuple #[.int .i64 (n : Int), .int .i64 (c : Int)]) ∧ One AP w' B a room s' K' ∧ (∀ g, K g → K' g) ∧ Kept w w' K ∧ Below B w w' := by
  obtain ⟨F, h⟩ := h
  have hI := inv_sweep h.inv l
  have hc := hC.sweep h.ap h.inv l A ca hrow (fun g hg => (h.keep g hg).2) hlen hfit
  rw [he] at hI hc
  refine hc.mono fun e w' ⟨hr, F', haf⟩ => ?_
  obtain ⟨h1, h2, h3⟩ := h.op hC haf hI
  exact ⟨_, hr, ⟨_, h1⟩, fun g hg => .inl hg, h2, h3⟩
theorem oReach (hC : AC B EV AP) (h : One AP w B a room s K) (l : List Int) (A : Option Addr) (ca : Nat) (hrow : RowI w K A l) (hlen : l.length ≤ 1000) (hfit : B64s l) :
    Calls Tryd.prog 20 #[.pointer (some ⟨a, 0, none⟩), .slice A l.length ca] w fun e w' => ∃ O co K', e = .returned (.slice O (reachA s l).length co) ∧ RowI w' K' O (reachA s l) ∧ One AP w' B a room s K' ∧ (∀ g, K g → K' g) ∧ Kept w w' K ∧ Below B w w' := by
  obtain ⟨F, h⟩ := h
  refine (hC.reach h.ap h.inv l A ca hrow (fun g hg => (h.keep g hg).2) hlen hfit).mono fun e w' ⟨O, co, hr, F', r, haf⟩ => ?_
  obtain ⟨h1, h2, h3⟩ := h.op hC haf h.inv
  exact ⟨O, co, _, hr, r.mono fun g hg hl => .inr ⟨hg.1, hl, hg.2⟩, ⟨_, h1⟩, fun g hg => .inl hg, h2, h3⟩
theorem oLive (hC : AC B EV AP) (h : One AP w B a room s K) :
    Calls Tryd.prog 11 #[.pointer (some ⟨a, 0, none⟩)] w fun e w' => ∃ O co K', e = .returned (.slice O (liveA s).length co) ∧ RowI w' K' O (liveA s) ∧ One AP w' B a room s K' ∧ (∀ g, K g → K' g) ∧ Kept w w' K ∧ Below B w w' := by
  obtain ⟨F, h⟩ := h
  refine (hC.live h.ap h.inv).mono fun e w' ⟨O, co, hr, F', r, haf⟩ => ?_
  obtain ⟨h1, h2, h3⟩ := h.op hC haf h.inv
  exact ⟨O, co, _, hr, r.mono fun g hg hl => .inr ⟨hg.1, hl, hg.2⟩, ⟨_, h1⟩, fun g hg => .inl hg, h2, h3⟩
theorem oGet (hC : AC B EV AP) (h : One AP w B a room s K) (x : Int) (hx : -9223372036854775808 ≤ x ∧ x ≤ 9223372036854775807) :
    Calls Tryd.prog 15 #[.pointer (some ⟨a, 0, none⟩), .int .i64 x] w fun e w' => ∃ A ca C cc K', e = .returned (.tuple #[ndV (getN s x) A ca C cc, .int .i64 (getE s x)]) ∧ RowI w' K' A (getN s x).refs ∧ RowI w' K' C (getN s x).nums ∧ One AP w' B a room s K' ∧ (∀ g, K g → K' g) ∧ Kept w w' K ∧ Below B w w' := by
  obtain ⟨F, h⟩ := h
  refine (hC.get h.ap h.inv x hx).mono fun e w' ⟨A, ca, C, cc, hr, F', r1, r2, haf⟩ => ?_
  obtain ⟨h1, h2, h3⟩ := h.op hC haf h.inv
  exact ⟨A, ca, C, cc, _, hr, r1.mono fun g hg hl => .inr ⟨hg.1, hl, hg.2⟩, r2.mono fun g hg hl => .inr ⟨hg.1, hl, hg.2⟩, ⟨_, h1⟩, fun g hg => .inl hg, h2, h3⟩
theorem oLen (hC : AC B EV AP) (h : One AP w B a room s K) :
    Calls Tryd.prog 13 #[.pointer (some ⟨a, 0, none⟩)] w fun e w' => ∃ K', e = .returned (.int .i64 ((liveA s).length : Int)) ∧ One AP w' B a room s K' ∧ (∀ g, K g → K' g) ∧ Kept w w' K ∧ Below B w w' := by
  obtain ⟨F, h⟩ := h
  refine (hC.size h.ap h.inv).mono fun e w' ⟨hr, F', haf⟩ => ?_
  obtain ⟨h1, h2, h3⟩ := h.op hC haf h.inv
  exact ⟨_, hr, ⟨_, h1⟩, fun g hg => .inl hg, h2, h3⟩
theorem oRoom (hC : AC B EV AP) (h : One AP w B a room s K) :
    Calls Tryd.prog 14 #[.pointer (some ⟨a, 0, none⟩)] w fun e w' => ∃ K', e = .returned (.int .i64 (room : Int)) ∧ One AP w' B a room s K' ∧ (∀ g, K g → K' g) ∧ Kept w w' K ∧ Below B w w' := by
  obtain ⟨F, h⟩ := h
  refine (hC.room h.ap h.inv).mono fun e w' ⟨hr, F', haf⟩ => ?_
  obtain ⟨h1, h2, h3⟩ := h.op hC haf h.inv
  exact ⟨_, hr, ⟨_, h1⟩, fun g hg => .inl hg, h2, h3⟩
theorem oNew (w : World) (hC : AC w.heap.size EV AP) (hE : EV w) (room : Nat) (hr : room ≤ 65536) :
    Calls Tryd.prog 7 #[.int .i64 (room : Int)] w fun e w' => ∃ a K', e = .returned (.tuple #[.pointer (some ⟨a, 0, none⟩), .int .i64 0]) ∧ One AP w' w.heap.size a room [] K' ∧ (∀ g, g < w.heap.size → K' g) ∧ Below w.heap.size w w' := by
  refine (hC.new w room hE (Nat.le_refl _)).mono fun e w' ⟨hy, _, hb⟩ => ?_
  obtain ⟨a, he, hA⟩ := hy (by omega)
  have hA : AP w' (fun g => w.heap.size ≤ g) a room [] := by simpa using hA
  have hz := hb.size
  exact ⟨a, fun g => g < w.heap.size, he, ⟨fun g => w.heap.size ≤ g ∧ g < w'.heap.size, ⟨hC.mono hA fun g h hl => ⟨h, hl⟩, inv_nil room, fun g hg => hg, fun g hg => ⟨by omega, fun e => by omega⟩, hz⟩⟩, fun g hg => hg, hb⟩
end
/- The live question, by the document. -/
def alN1 : Nd := ⟨1, [], [], [120]⟩
def alN2 : Nd := ⟨2, [1, 0], [5], []⟩
theorem al1 : putA 3 [] [alN1, ⟨2, [-1, 0], [5], []⟩, alN1] = ([some alN1, some alN2], [1, 2, 1], 0) := by decide
theorem al2 : putA 3 [some alN1, some alN2] [⟨3, [], [], []⟩, ⟨4, [], [], []⟩] = ([some alN1, some alN2], [], 3) := by decide
theorem al3 : putA 3 [some alN1, some alN2] [⟨0, [3], [], []⟩, ⟨4, [], [], []⟩] = ([some alN1, some alN2], [], 1) := by decide
theorem al5 : putA 3 [some alN1, none] [⟨7, [1], [], []⟩] = ([some alN1, some ⟨7, [1], [], []⟩], [2], 0) := by decide
theorem alR (h : Int) : Rch [some alN1, some alN2] [1] h ↔ h = 1 := by
  constructor
  · intro e
    induction e with
    | root r hm _ => simpa using hm
    | ref h r n _ hn hm hp ih =>
      subst ih
      have : n = alN1 := by have h2 : ndAt [some alN1, some alN2] 1 = some alN1 := by decide
                            rw [h2] at hn; exact (Option.some.inj hn).symm
      subst this
      cases hm
  · rintro rfl
    exact .root 1 (by simp) (by decide)
theorem al4 : sweepA [some alN1, some alN2] [1] = ([some alN1, none], 1, 0) := by
  have hl : leftA [some alN1, some alN2] [1] = [some alN1, none] := by
    unfold leftA leftF leftF leftF
    rw [if_pos ((alR 1).2 rfl), if_neg (fun e => absurd ((alR (1 + 1)).1 e) (by decide))]
  rw [sweep_yes (by decide)]
  unfold reachA
  rw [hl]
  decide
end Go.Proofs.YtbjbbpbagnlkmaaDoor
namespace Go.Proofs.YtbjbbpbagnlkmaaDoor
open Go.RowKit
section
variable {EV : World → Prop} {AP : World → (Nat → Prop) → Nat → Nat → Sh → Prop}
theorem One.al {w : World} {B a room : Nat} {s : Sh} {K : Nat → Prop} (hC : AC B EV AP) (h : One AP w B a room s K) (o : Obj) : One AP (w.alloc o) B a room s (fun g => K g ∨ g = w.heap.size) ∧ Kept w (w.alloc o) K ∧ Below B w (w.alloc o) ∧ ∀ g, K g → (fun g => K g ∨ g = w.heap.size) g := by
  obtain ⟨⟨F, h1⟩, h2, h3⟩ := h.below hC ((Below.refl w.heap.size w).alloc (Nat.le_refl _) o)
  refine ⟨⟨F, ⟨h1.ap, h1.inv, h1.own, fun g hg => h1.keep g ?_, h1.base⟩⟩, h2, h3, fun g hg => .inl hg⟩
  rcases hg with hg | hg
  · exact .inl hg
  · exact .inr ⟨by omega, by rw [hg]; simp⟩
theorem RowI.wide {w w' : World} {K K' : Nat → Prop} {A : Option Addr} {l : List Int} (h : RowI w K A l) (hk : Kept w w' K) (hK : ∀ g, K g → K' g) : RowI w' K' A l := (h.kept hk).mono fun g hg _ => hK g hg
theorem fits1 : ∀ n ∈ [alN1, ⟨2, [-1, 0], [5], []⟩, alN1], FitB n := by
  intro n hn
  simp only [List.mem_cons, List.not_mem_nil, or_false] at hn
  rcases hn with rfl | rfl | rfl <;> exact ⟨⟨by decide, by decide, by decide⟩, by unfold B64s; decide, by unfold B64s; decide, by decide⟩
theorem fits2 : ∀ n ∈ [(⟨3, [], [], []⟩ : Nd), ⟨4, [], [], []⟩], FitB n := by
  intro n hn
  simp only [List.mem_cons, List.not_mem_nil, or_false] at hn
  rcases hn with rfl | rfl <;> exact ⟨⟨by decide, by decide, by decide⟩, by unfold B64s; decide, by unfold B64s; decide, by decide⟩
theorem fits3 : ∀ n ∈ [(⟨0, [3], [], []⟩ : Nd), ⟨4, [], [], []⟩], FitB n := by
  intro n hn
  simp only [List.mem_cons, List.not_mem_nil, or_false] at hn
  rcases hn with rfl | rfl <;> exact ⟨⟨by decide, by decide, by decide⟩, by unfold B64s; decide, by unfold B64s; decide, by decide⟩
theorem fits4 : B64s [1] := by unfold B64s; decide
theorem fits5 : ∀ n ∈ [(⟨7, [1], [], []⟩ : Nd)], FitB n := by
  intro n hn
  simp only [List.mem_cons, List.not_mem_nil, or_false] at hn
  subst hn
  exact ⟨⟨by decide, by decide, by decide⟩, by unfold B64s; decide, by unfold B64s; decide, by decide⟩
theorem alG : getN [some alN1, some ⟨7, [1], [], []⟩] 2 = ⟨7, [1], [], []⟩ := by decide
theorem alL : (liveA [some alN1, some ⟨7, [1], [], []⟩]).length = 2 := by decide
theorem alE : getE [some alN1, some ⟨7, [1], [], []⟩] 2 = 0 := by decide
set_option maxHeartbeats 16000000 in
set_option maxRecDepth 10000 in
theorem lalive_any (w0 : World) (hC : AC w0.heap.size EV AP) (hE : EV w0) : AliveC w0 := by
  intro w hw0
  have HE := Lib.hid (hC.on hE hw0)
  have HC := Lib.hid (hC.up hw0.size)
  clear hC hE hw0
  go_enter Tryd.func6, Tryd.ntmps6
  go_wp2_with fail
  refine (oNew w HC.out HE.out 3 (by omega)).mono ?_; rintro e w1 ⟨a, K1, rfl, hO1, hk1, hb1⟩
  have HO1 := Lib.hid hO1
  have HB1 := Lib.hid hb1
  clear hO1 hk1 hb1
  go_wp2_with fail
  have a1 := HO1.out.al HC.out (.cells #[.int .i64 (-1), .int .i64 0] 3)
  have a2 := a1.1.al HC.out (.cells #[.int .i64 5] 3)
  have a3 := a2.1.al HC.out (.cells #[.int .i64 1, .slice none 0 0, .slice none 0 0, .string ⟨#[120]⟩, .int .i64 2, .slice (some ⟨w1.heap.size, 0, none⟩) 2 2, .slice (some ⟨w1.heap.size + 1, 0, none⟩) 1 1, .string ⟨#[]⟩, .int .i64 1, .slice none 0 0, .slice none 0 0, .string ⟨#[120]⟩] 40)
  have hbw := (((HB1.out.trans a1.2.2.1).trans a2.2.2.1).trans a3.2.2.1)
  have hh := heap3 w1 (.cells #[.int .i64 (-1), .int .i64 0] 3) (.cells #[.int .i64 5] 3) (.cells #[.int .i64 1, .slice none 0 0, .slice none 0 0, .string ⟨#[120]⟩, .int .i64 2, .slice (some ⟨w1.heap.size, 0, none⟩) 2 2, .slice (some ⟨w1.heap.size + 1, 0, none⟩) 1 1, .string ⟨#[]⟩, .int .i64 1, .slice none 0 0, .slice none 0 0, .string ⟨#[120]⟩] 40)
  have hrow : RowN _ _ (some ⟨w1.heap.size + 1 + 1, 0, none⟩) [alN1, ⟨2, [-1, 0], [5], []⟩, alN1] := rowN_lit (Q := fun g => ((K1 g ∨ g = w1.heap.size) ∨ g = (w1.alloc (.cells #[.int .i64 (-1), .int .i64 0] 3)).heap.size) ∨ g = ((w1.alloc (.cells #[.int .i64 (-1), .int .i64 0] 3)).alloc (.cells #[.int .i64 5] 3)).heap.size) (L := [⟨alN1, none, 0, none, 0⟩, ⟨⟨2, [-1, 0], [5], []⟩, some ⟨w1.heap.size, 0, none⟩, 2, some ⟨w1.heap.size + 1, 0, none⟩, 1⟩, ⟨alN1, none, 0, none, 0⟩]) hh.2.2 rfl rfl (.inr (by simp)) (by
    intro q hq
    simp only [List.mem_cons, List.not_mem_nil, or_false] at hq
    rcases hq with rfl | rfl | rfl
    · exact ⟨.inl rfl, .inl rfl⟩
    · exact ⟨rowI_lit hh.1 rfl (.inl (.inl (.inr rfl))), rowI_lit hh.2.1 rfl (.inl (.inr (by simp)))⟩
    · exact ⟨.inl rfl, .inl rfl⟩)
  refine (oPut HC.out a3.1 [alN1, ⟨2, [-1, 0], [5], []⟩, alN1] (some ⟨w1.heap.size + 1 + 1, 0, none⟩) 3 hrow (by decide) fits1 al1).mono ?_; rintro e w2 ⟨O2, c2, K2, rfl, rO, hO, hK, hk, hb⟩
  have HO2 := Lib.hid hO
  have HB2 := Lib.hid (hbw.trans hb)
  have HR2 := Lib.hid rO
  clear rO hrow hh
  clear hO hK hk hb hbw a1 a2 a3  HO1 HB1 
  go_wp2_with fail
  have a1 := HO2.out.al HC.out (.cells #[.int .i64 3, .slice none 0 0, .slice none 0 0, .string ⟨#[]⟩, .int .i64 4, .slice none 0 0, .slice none 0 0, .string ⟨#[]⟩] 40)
  have hbw := (HB2.out.trans a1.2.2.1)
  have wR := (HR2.out.wide a1.2.1 a1.2.2.2)
  have hh := (MapKept.heap_alloc w2 (.cells #[.int .i64 3, .slice none 0 0, .slice none 0 0, .string ⟨#[]⟩, .int .i64 4, .slice none 0 0, .slice none 0 0, .string ⟨#[]⟩] 40)).1
  have hrow : RowN _ _ (some ⟨w2.heap.size, 0, none⟩) [⟨3, [], [], []⟩, ⟨4, [], [], []⟩] := rowN_lit (Q := fun g => K2 g ∨ g = w2.heap.size) (L := [⟨⟨3, [], [], []⟩, none, 0, none, 0⟩, ⟨⟨4, [], [], []⟩, none, 0, none, 0⟩]) hh rfl rfl (.inr rfl) (by
    intro q hq
    simp only [List.mem_cons, List.not_mem_nil, or_false] at hq
    rcases hq with rfl | rfl <;> exact ⟨.inl rfl, .inl rfl⟩)
  refine (oPut HC.out a1.1 [⟨3, [], [], []⟩, ⟨4, [], [], []⟩] (some ⟨w2.heap.size, 0, none⟩) 2 hrow (by decide) fits2 al2).mono ?_; rintro e w3 ⟨O3, c3, K3, rfl, rO, hO, hK, hk, hb⟩
  have HO3 := Lib.hid hO
  have HB3 := Lib.hid (hbw.trans hb)
  have HR3 := Lib.hid (wR.wide hk hK)
  clear rO hrow hh
  clear hO hK hk hb hbw a1 wR HO2 HB2 HR2
  go_wp2_with fail
  have a1 := HO3.out.al HC.out (.cells #[.int .i64 3] 3)
  have a2 := a1.1.al HC.out (.cells #[.int .i64 0, .slice (some ⟨w3.heap.size, 0, none⟩) 1 1, .slice none 0 0, .string ⟨#[]⟩, .int .i64 4, .slice none 0 0, .slice none 0 0, .string ⟨#[]⟩] 40)
  have hbw := ((HB3.out.trans a1.2.2.1).trans a2.2.2.1)
  have wR := ((HR3.out.wide a1.2.1 a1.2.2.2).wide a2.2.1 a2.2.2.2)
  have h1 := heapA_old w3 (.cells #[.int .i64 3] 3) (.cells #[.int .i64 0, .slice (some ⟨w3.heap.size, 0, none⟩) 1 1, .slice none 0 0, .string ⟨#[]⟩, .int .i64 4, .slice none 0 0, .slice none 0 0, .string ⟨#[]⟩] 40)
  have h2 := heapA_new w3 (.cells #[.int .i64 3] 3) (.cells #[.int .i64 0, .slice (some ⟨w3.heap.size, 0, none⟩) 1 1, .slice none 0 0, .string ⟨#[]⟩, .int .i64 4, .slice none 0 0, .slice none 0 0, .string ⟨#[]⟩] 40)
  have hrow : RowN _ _ (some ⟨w3.heap.size + 1, 0, none⟩) [⟨0, [3], [], []⟩, ⟨4, [], [], []⟩] := rowN_lit (Q := fun g => (K3 g ∨ g = w3.heap.size) ∨ g = (w3.alloc (.cells #[.int .i64 3] 3)).heap.size) (L := [⟨⟨0, [3], [], []⟩, some ⟨w3.heap.size, 0, none⟩, 1, none, 0⟩, ⟨⟨4, [], [], []⟩, none, 0, none, 0⟩]) h2 rfl rfl (.inr (by simp)) (by
    intro q hq
    simp only [List.mem_cons, List.not_mem_nil, or_false] at hq
    rcases hq with rfl | rfl
    · exact ⟨rowI_lit h1 rfl (.inl (.inr rfl)), .inl rfl⟩
    · exact ⟨.inl rfl, .inl rfl⟩)
  refine (oPut HC.out a2.1 [⟨0, [3], [], []⟩, ⟨4, [], [], []⟩] (some ⟨w3.heap.size + 1, 0, none⟩) 2 hrow (by decide) fits3 al3).mono ?_; rintro e w4 ⟨O4, c4, K4, rfl, rO, hO, hK, hk, hb⟩
  have HO4 := Lib.hid hO
  have HB4 := Lib.hid (hbw.trans hb)
  have HR4 := Lib.hid (wR.wide hk hK)
  clear rO hrow h1 h2
  clear hO hK hk hb hbw a1 a2 wR HO3 HB3 HR3
  go_wp2_with fail
  have a1 := HO4.out.al HC.out (.cells #[.int .i64 1] 3)
  have hbw := (HB4.out.trans a1.2.2.1)
  have wR := (HR4.out.wide a1.2.1 a1.2.2.2)
  have hh := (MapKept.heap_alloc w4 (.cells #[.int .i64 1] 3)).1
  have hrow : RowI _ _ (some ⟨w4.heap.size, 0, none⟩) [1] := rowI_lit (Q := fun g => K4 g ∨ g = w4.heap.size) hh rfl (.inr rfl)
  refine (oSweep HC.out a1.1 [1] (some ⟨w4.heap.size, 0, none⟩) 1 hrow (by decide) fits4 al4).mono ?_; rintro e w5 ⟨K5, rfl, hO, hK, hk, hb⟩
  have HO5 := Lib.hid hO
  have HB5 := Lib.hid (hbw.trans hb)
  have HR5 := Lib.hid (wR.wide hk hK)
  clear hrow hh
  clear hO hK hk hb hbw a1 wR HO4 HB4 HR4
  go_wp2_with fail
  have a1 := HO5.out.al HC.out (.cells #[.int .i64 1] 3)
  have a2 := a1.1.al HC.out (.cells #[.int .i64 7, .slice (some ⟨w5.heap.size, 0, none⟩) 1 1, .slice none 0 0, .string ⟨#[]⟩] 40)
  have hbw := ((HB5.out.trans a1.2.2.1).trans a2.2.2.1)
  have wR := ((HR5.out.wide a1.2.1 a1.2.2.2).wide a2.2.1 a2.2.2.2)
  have h1 := heapA_old w5 (.cells #[.int .i64 1] 3) (.cells #[.int .i64 7, .slice (some ⟨w5.heap.size, 0, none⟩) 1 1, .slice none 0 0, .string ⟨#[]⟩] 40)
  have h2 := heapA_new w5 (.cells #[.int .i64 1] 3) (.cells #[.int .i64 7, .slice (some ⟨w5.heap.size, 0, none⟩) 1 1, .slice none 0 0, .string ⟨#[]⟩] 40)
  have hrow : RowN _ _ (some ⟨w5.heap.size + 1, 0, none⟩) [⟨7, [1], [], []⟩] := rowN_lit (Q := fun g => (K5 g ∨ g = w5.heap.size) ∨ g = (w5.alloc (.cells #[.int .i64 1] 3)).heap.size) (L := [⟨⟨7, [1], [], []⟩, some ⟨w5.heap.size, 0, none⟩, 1, none, 0⟩]) h2 rfl rfl (.inr (by simp)) (by
    intro q hq
    simp only [List.mem_cons, List.not_mem_nil, or_false] at hq
    subst hq
    exact ⟨rowI_lit h1 rfl (.inl (.inr rfl)), .inl rfl⟩)
  refine (oPut HC.out a2.1 [⟨7, [1], [], []⟩] (some ⟨w5.heap.size + 1, 0, none⟩) 1 hrow (by decide) fits5 al5).mono ?_; rintro e w6 ⟨O6, c6, K6, rfl, rO, hO, hK, hk, hb⟩
  have HO6 := Lib.hid hO
  have HB6 := Lib.hid (hbw.trans hb)
  have HR6 := Lib.hid (wR.wide hk hK)
  have HM6 := Lib.hid rO
  clear rO hrow h1 h2
  clear hO hK hk hb hbw a1 a2 wR HO5 HB5 HR5
  go_wp2_with fail
  refine (oGet HC.out HO6.out 2 (by decide)).mono ?_; rintro e w7 ⟨A7, k7, D7, d7, K7, he, r1, r2, hO, hK, hk, hb⟩
  rw [alG, alE] at he
  rw [alG] at r1
  subst he
  have hX : ∃ W8, W8 = w7.alloc (.cells #[.int .i64 7, .slice A7 1 k7, .slice D7 0 d7, .string ⟨#[]⟩] 40) := ⟨_, rfl⟩
  have a1 := One.al HC.out hO (.cells #[.int .i64 7, .slice A7 1 k7, .slice D7 0 d7, .string ⟨#[]⟩] 40)
  have hbw := (HB6.out.trans hb).trans a1.2.2.1
  have wR := ((HR6.out.wide hk hK).wide a1.2.1 a1.2.2.2)
  have wM := ((HM6.out.wide hk hK).wide a1.2.1 a1.2.2.2)
  have wA := (r1.wide a1.2.1 a1.2.2.2)
  have HO8 := Lib.hid a1.1
  have HB8 := Lib.hid hbw
  obtain ⟨g2, o2, rfl, _, l2, c2'⟩ := wR.at (i := 0) (by decide)
  obtain ⟨g6, o6, rfl, _, l6, c6'⟩ := wM.at (i := 0) (by decide)
  obtain ⟨g7, o7, rfl, _, l7, c7'⟩ := wA.at (i := 0) (by decide)
  have e0 := c2' 0 1 rfl
  have e1 := c2' 1 2 rfl
  have e2 := c2' 2 1 rfl
  have e3 := c6' 0 2 rfl
  have e4 := c7' 0 1 rfl
  rw [Nat.add_zero] at e0 e3 e4
  clear hX hO hK hk hb hbw wR wM wA r1 r2 a1 HO6 HB6 HR6 HM6 c2' c6' c7'
  unfold ndV
  go_wp2_with fail
  clear e0 e1 e2 e3 e4
  refine (oLen HC.out HO8.out).mono ?_; rintro e w9 ⟨K9, rfl, hO, hK, hk, hb⟩
  have HO9 := Lib.hid hO
  have HB9 := Lib.hid (HB8.out.trans hb)
  clear hO hK hk hb HO8 HB8
  rw [alL]
  go_wp2_with fail
  refine (oRoom HC.out HO9.out).mono ?_; rintro e w10 ⟨K10, rfl, hO, hK, hk, hb⟩
  have HB10 := Lib.hid (HB9.out.trans hb)
  clear hO hK hk hb HO9 HB9
  go_wp2_with fail
  go_ret
  exact ⟨rfl, HB10.out⟩
end
end Go.Proofs.YtbjbbpbagnlkmaaDoor
namespace Go.Proofs.YtbjbbpbagnlkmaaDoor
open Go.ChangeShapes Go.WideShapes Go.ChangeAt Go.RowKit
theorem own : ownKnob Tryd.prog.godebug = none := by kernel_rfl
theorem yTab9 : (Tryd.prog.globals[0]?).map (·.type) = some 127 := by kernel_rfl
theorem cellsTab9 : Tryd.prog.cellsOf 127 = 20 := by kernel_rfl
theorem cellsU64 : Tryd.prog.cellsOf 108 = 1 := by kernel_rfl

theorem tab_of {w : World} (h : laidMet Tryd.prog Rows.arenaPlaysRow.laid w) : TabE w :=
  Lib.tabIs_of_head (rest := _) gTab9 yTab9 Tryd.underlying127 Tryd.underlying108 cellsU64 cellsTab9 h.tail.tail

def valsOf : DataW Unit → List Value
  | .agg ds => ds.map fun
    | .lit (.int k n) => .int k n
    | _ => .nilIface
  | _ => []
noncomputable def laidWorld (os : Os) : World :=
  let w0 := World.holding Tryd.prog os ⟨#[], #[], []⟩
  let put (h : Array Obj) (g : Nat) (cs : Array Value) : Array Obj := h.modify g fun
    | .cells _ t frozen => .cells cs t frozen
    | o => o
  let h2 := put w0.heap 0 (valsOf Rows.laid_internal_strconv_uint64pow10).toArray
  let h3 := put h2 1 (valsOf Rows.laid_math_bits_deBruijn32tab).toArray
  let h4 := put h3 2 (valsOf Rows.laid_math_bits_deBruijn64tab).toArray
  { w0 with heap := h4 }
theorem laid_met (os : Os) (args : Array Value) : laidMet Tryd.prog Rows.arenaPlaysRow.laid ((laidWorld os).forCall (fun _ _ => 0) ⟨#[], args, []⟩).memory :=
  laidMet_of_run' 8 (by kernel_rfl) (by kernel_rfl)
theorem actsOk {l : List AcM} (h : ∀ q ∈ l, OkA q) : ∀ q ∈ l, (0 ≤ q.kind ∧ q.kind ≤ 255) ∧ (q.roots.length ≤ maxLen ∧ q.L.length ≤ maxLen) ∧ B64s q.roots ∧ ∀ n ∈ q.L, (n.refs.length ≤ maxLen ∧ n.nums.length ≤ maxLen ∧ n.text.length ≤ maxLen) ∧ B64s n.refs ∧ B64s n.nums ∧ -9223372036854775808 ≤ n.kind ∧ n.kind ≤ 9223372036854775807 := fun q hq => by
  obtain ⟨h1, h2, h3, h4, h5⟩ := h q hq
  refine ⟨h1, ⟨h4, h2⟩, h5, fun n hn => ?_⟩
  obtain ⟨a, b, c, d, e, f⟩ := h3 n hn
  exact ⟨⟨a, b, d⟩, c, e, f⟩
end Go.Proofs.YtbjbbpbagnlkmaaDoor
