/- Texts joined: NdZ, FrameA, NeB, NeC, FrameB. -/
import Derived.Test.YtbjbbpbagnlkmaaDoorMs08
import Derived.Test.YtbjbbpbagnlkmaaDoorRows
import Derived.WalkKit
import Derived.ProofKit
import Derived.OpenShut
import Derived.Deep.DeepHandedRow
import Derived.Lib.LaidTab
import Derived.Stop.LaidErr
import Derived.Lib.SmallJoins
import Derived.LaidLaws
import Derived.Lib.LaidIn
import Derived.Deep.CutRange
import Derived.Deep.RegionLaw
import Derived.Deep.RegionLawGrows
set_option linter.all false
namespace Go.Proofs.YtbjbbpbagnlkmaaDoor
open Go.RowKit
section
variable {EV : World → Prop} {AP : World → (Nat → Prop) → Nat → Nat → Sh → Prop}
theorem One.al {w : World} {B a room : Nat} {s : Sh} {K : Nat → Prop} (hC : AC B EV AP) (h : One AP w B a room s K) (o : Obj) : One AP (w.alloc o) B a room s (fun g => K g ∨ g = w.heap.size) ∧ Kept w (w.alloc o) K ∧ Below B w (w.alloc o) ∧ ∀ g, K g → (fun g => K g ∨ g = w.heap.size) g := by
  obtain ⟨⟨F, h1⟩, h2, h3⟩ := h.below hC ((Below.refl w.heap.size w).alloc (Nat.le_refl _) o)
  refine ⟨⟨F, ⟨h1.ap, h1.inv, h1.own, fun g hg => h1.keep g ?_, h1.base⟩⟩, h2, h3, fun g hg => .inl hg⟩
  rcases hg with hg | hg
  · exact .inl hg
  · exact .inr ⟨by omega, by rw [hg]; simp⟩
theorem RowI.wide {w w' : World} {K K' : Nat → Prop} {A : Option Addr} {l : List Int} (h : RowI w K A l) (hk : Kept w w' K) (hK : ∀ g, K g → K' g) : RowI w' K' A l := (h.kept hk).mono fun g hg _ => hK g hg
theorem fits1 : ∀ n ∈ [alN1, ⟨2, [-1, 0], [5], []⟩, alN1], FitB n := by
  intro n hn
  simp only [List.mem_cons, List.not_mem_nil, or_false] at hn
  rcases hn with rfl | rfl | rfl <;> exact ⟨⟨by decide, by decide, by decide⟩, by unfold B64s; decide, by unfold B64s; decide, by decide⟩
theorem fits2 : ∀ n ∈ [(⟨3, [], [], []⟩ : Nd), ⟨4, [], [], []⟩], FitB n := by
  intro n hn
  simp only [List.mem_cons, List.not_mem_nil, or_false] at hn
  rcases hn with rfl | rfl <;> exact ⟨⟨by decide, by decide, by decide⟩, by unfold B64s; decide, by unfold B64s; decide, by decide⟩
theorem fits3 : ∀ n ∈ [(⟨0, [3], [], []⟩ : Nd), ⟨4, [], [], []⟩], FitB n := by
  intro n hn
  simp only [List.mem_cons, List.not_mem_nil, or_false] at hn
  rcases hn with rfl | rfl <;> exact ⟨⟨by decide, by decide, by decide⟩, by unfold B64s; decide, by unfold B64s; decide, by decide⟩
theorem fits4 : B64s [1] := by unfold B64s; decide
theorem fits5 : ∀ n ∈ [(⟨7, [1], [], []⟩ : Nd)], FitB n := by
  intro n hn
  simp only [List.mem_cons, List.not_mem_nil, or_false] at hn
  subst hn
  exact ⟨⟨by decide, by decide, by decide⟩, by unfold B64s; decide, by unfold B64s; decide, by decide⟩
theorem alG : getN [some alN1, some ⟨7, [1], [], []⟩] 2 = ⟨7, [1], [], []⟩ := by decide
theorem alL : (liveA [some alN1, some ⟨7, [1], [], []⟩]).length = 2 := by decide
theorem alE : getE [some alN1, some ⟨7, [1], [], []⟩] 2 = 0 := by decide
set_option maxHeartbeats 16000000 in
set_option maxRecDepth 10000 in
theorem lalive_any (w0 : World) (hC : AC w0.heap.size EV AP) (hE : EV w0) : AliveC w0 := by
  intro w hw0
  have HE := Lib.hid (hC.on hE hw0)
  have HC := Lib.hid (hC.up hw0.size)
  clear hC hE hw0
  go_enter Tryd.func6, Tryd.ntmps6
  go_wp2_with fail
  refine (oNew w HC.out HE.out 3 (by omega)).mono ?_; rintro e w1 ⟨a, K1, rfl, hO1, hk1, hb1⟩
  have HO1 := Lib.hid hO1
  have HB1 := Lib.hid hb1
  clear hO1 hk1 hb1
  go_wp2_with fail
  have a1 := HO1.out.al HC.out (.cells #[.int .i64 (-1), .int .i64 0] 3)
  have a2 := a1.1.al HC.out (.cells #[.int .i64 5] 3)
  have a3 := a2.1.al HC.out (.cells #[.int .i64 1, .slice none 0 0, .slice none 0 0, .string ⟨#[120]⟩, .int .i64 2, .slice (some ⟨w1.heap.size, 0, none⟩) 2 2, .slice (some ⟨w1.heap.size + 1, 0, none⟩) 1 1, .string ⟨#[]⟩, .int .i64 1, .slice none 0 0, .slice none 0 0, .string ⟨#[120]⟩] 40)
  have hbw := (((HB1.out.trans a1.2.2.1).trans a2.2.2.1).trans a3.2.2.1)
  have hh := heap3 w1 (.cells #[.int .i64 (-1), .int .i64 0] 3) (.cells #[.int .i64 5] 3) (.cells #[.int .i64 1, .slice none 0 0, .slice none 0 0, .string ⟨#[120]⟩, .int .i64 2, .slice (some ⟨w1.heap.size, 0, none⟩) 2 2, .slice (some ⟨w1.heap.size + 1, 0, none⟩) 1 1, .string ⟨#[]⟩, .int .i64 1, .slice none 0 0, .slice none 0 0, .string ⟨#[120]⟩] 40)
  have hrow : RowN _ _ (some ⟨w1.heap.size + 1 + 1, 0, none⟩) [alN1, ⟨2, [-1, 0], [5], []⟩, alN1] := rowN_lit (Q := fun g => ((K1 g ∨ g = w1.heap.size) ∨ g = (w1.alloc (.cells #[.int .i64 (-1), .int .i64 0] 3)).heap.size) ∨ g = ((w1.alloc (.cells #[.int .i64 (-1), .int .i64 0] 3)).alloc (.cells #[.int .i64 5] 3)).heap.size) (L := [⟨alN1, none, 0, none, 0⟩, ⟨⟨2, [-1, 0], [5], []⟩, some ⟨w1.heap.size, 0, none⟩, 2, some ⟨w1.heap.size + 1, 0, none⟩, 1⟩, ⟨alN1, none, 0, none, 0⟩]) hh.2.2 rfl rfl (.inr (by simp)) (by
    intro q hq
    simp only [List.mem_cons, List.not_mem_nil, or_false] at hq
    rcases hq with rfl | rfl | rfl
    · exact ⟨.inl rfl, .inl rfl⟩
    · exact ⟨rowI_lit hh.1 rfl (.inl (.inl (.inr rfl))), rowI_lit hh.2.1 rfl (.inl (.inr (by simp)))⟩
    · exact ⟨.inl rfl, .inl rfl⟩)
  refine (oPut HC.out a3.1 [alN1, ⟨2, [-1, 0], [5], []⟩, alN1] (some ⟨w1.heap.size + 1 + 1, 0, none⟩) 3 hrow (by decide) fits1 al1).mono ?_; rintro e w2 ⟨O2, c2, K2, rfl, rO, hO, hK, hk, hb⟩
  have HO2 := Lib.hid hO
  have HB2 := Lib.hid (hbw.trans hb)
  have HR2 := Lib.hid rO
  clear rO hrow hh
  clear hO hK hk hb hbw a1 a2 a3  HO1 HB1 
  go_wp2_with fail
  have a1 := HO2.out.al HC.out (.cells #[.int .i64 3, .slice none 0 0, .slice none 0 0, .string ⟨#[]⟩, .int .i64 4, .slice none 0 0, .slice none 0 0, .string ⟨#[]⟩] 40)
  have hbw := (HB2.out.trans a1.2.2.1)
  have wR := (HR2.out.wide a1.2.1 a1.2.2.2)
  have hh := (MapKept.heap_alloc w2 (.cells #[.int .i64 3, .slice none 0 0, .slice none 0 0, .string ⟨#[]⟩, .int .i64 4, .slice none 0 0, .slice none 0 0, .string ⟨#[]⟩] 40)).1
  have hrow : RowN _ _ (some ⟨w2.heap.size, 0, none⟩) [⟨3, [], [], []⟩, ⟨4, [], [], []⟩] := rowN_lit (Q := fun g => K2 g ∨ g = w2.heap.size) (L := [⟨⟨3, [], [], []⟩, none, 0, none, 0⟩, ⟨⟨4, [], [], []⟩, none, 0, none, 0⟩]) hh rfl rfl (.inr rfl) (by
    intro q hq
    simp only [List.mem_cons, List.not_mem_nil, or_false] at hq
    rcases hq with rfl | rfl <;> exact ⟨.inl rfl, .inl rfl⟩)
  refine (oPut HC.out a1.1 [⟨3, [], [], []⟩, ⟨4, [], [], []⟩] (some ⟨w2.heap.size, 0, none⟩) 2 hrow (by decide) fits2 al2).mono ?_; rintro e w3 ⟨O3, c3, K3, rfl, rO, hO, hK, hk, hb⟩
  have HO3 := Lib.hid hO
  have HB3 := Lib.hid (hbw.trans hb)
  have HR3 := Lib.hid (wR.wide hk hK)
  clear rO hrow hh
  clear hO hK hk hb hbw a1 wR HO2 HB2 HR2
  go_wp2_with fail
  have a1 := HO3.out.al HC.out (.cells #[.int .i64 3] 3)
  have a2 := a1.1.al HC.out (.cells #[.int .i64 0, .slice (some ⟨w3.heap.size, 0, none⟩) 1 1, .slice none 0 0, .string ⟨#[]⟩, .int .i64 4, .slice none 0 0, .slice none 0 0, .string ⟨#[]⟩] 40)
  have hbw := ((HB3.out.trans a1.2.2.1).trans a2.2.2.1)
  have wR := ((HR3.out.wide a1.2.1 a1.2.2.2).wide a2.2.1 a2.2.2.2)
  have h1 := heapA_old w3 (.cells #[.int .i64 3] 3) (.cells #[.int .i64 0, .slice (some ⟨w3.heap.size, 0, none⟩) 1 1, .slice none 0 0, .string ⟨#[]⟩, .int .i64 4, .slice none 0 0, .slice none 0 0, .string ⟨#[]⟩] 40)
  have h2 := heapA_new w3 (.cells #[.int .i64 3] 3) (.cells #[.int .i64 0, .slice (some ⟨w3.heap.size, 0, none⟩) 1 1, .slice none 0 0, .string ⟨#[]⟩, .int .i64 4, .slice none 0 0, .slice none 0 0, .string ⟨#[]⟩] 40)
  have hrow : RowN _ _ (some ⟨w3.heap.size + 1, 0, none⟩) [⟨0, [3], [], []⟩, ⟨4, [], [], []⟩] := rowN_lit (Q := fun g => (K3 g ∨ g = w3.heap.size) ∨ g = (w3.alloc (.cells #[.int .i64 3] 3)).heap.size) (L := [⟨⟨0, [3], [], []⟩, some ⟨w3.heap.size, 0, none⟩, 1, none, 0⟩, ⟨⟨4, [], [], []⟩, none, 0, none, 0⟩]) h2 rfl rfl (.inr (by simp)) (by
    intro q hq
    simp only [List.mem_cons, List.not_mem_nil, or_false] at hq
    rcases hq with rfl | rfl
    · exact ⟨rowI_lit h1 rfl (.inl (.inr rfl)), .inl rfl⟩
    · exact ⟨.inl rfl, .inl rfl⟩)
  refine (oPut HC.out a2.1 [⟨0, [3], [], []⟩, ⟨4, [], [], []⟩] (some ⟨w3.heap.size + 1, 0, none⟩) 2 hrow (by decide) fits3 al3).mono ?_; rintro e w4 ⟨O4, c4, K4, rfl, rO, hO, hK, hk, hb⟩
  have HO4 := Lib.hid hO
  have HB4 := Lib.hid (hbw.trans hb)
  have HR4 := Lib.hid (wR.wide hk hK)
  clear rO hrow h1 h2
  clear hO hK hk hb hbw a1 a2 wR HO3 HB3 HR3
  go_wp2_with fail
  have a1 := HO4.out.al HC.out (.cells #[.int .i64 1] 3)
  have hbw := (HB4.out.trans a1.2.2.1)
  have wR := (HR4.out.wide a1.2.1 a1.2.2.2)
  have hh := (MapKept.heap_alloc w4 (.cells #[.int .i64 1] 3)).1
  have hrow : RowI _ _ (some ⟨w4.heap.size, 0, none⟩) [1] := rowI_lit (Q := fun g => K4 g ∨ g = w4.heap.size) hh rfl (.inr rfl)
  refine (oSweep HC.out a1.1 [1] (some ⟨w4.heap.size, 0, none⟩) 1 hrow (by decide) fits4 al4).mono ?_; rintro e w5 ⟨K5, rfl, hO, hK, hk, hb⟩
  have HO5 := Lib.hid hO
  have HB5 := Lib.hid (hbw.trans hb)
  have HR5 := Lib.hid (wR.wide hk hK)
  clear hrow hh
  clear hO hK hk hb hbw a1 wR HO4 HB4 HR4
  go_wp2_with fail
  have a1 := HO5.out.al HC.out (.cells #[.int .i64 1] 3)
  have a2 := a1.1.al HC.out (.cells #[.int .i64 7, .slice (some ⟨w5.heap.size, 0, none⟩) 1 1, .slice none 0 0, .string ⟨#[]⟩] 40)
  have hbw := ((HB5.out.trans a1.2.2.1).trans a2.2.2.1)
  have wR := ((HR5.out.wide a1.2.1 a1.2.2.2).wide a2.2.1 a2.2.2.2)
  have h1 := heapA_old w5 (.cells #[.int .i64 1] 3) (.cells #[.int .i64 7, .slice (some ⟨w5.heap.size, 0, none⟩) 1 1, .slice none 0 0, .string ⟨#[]⟩] 40)
  have h2 := heapA_new w5 (.cells #[.int .i64 1] 3) (.cells #[.int .i64 7, .slice (some ⟨w5.heap.size, 0, none⟩) 1 1, .slice none 0 0, .string ⟨#[]⟩] 40)
  have hrow : RowN _ _ (some ⟨w5.heap.size + 1, 0, none⟩) [⟨7, [1], [], []⟩] := rowN_lit (Q := fun g => (K5 g ∨ g = w5.heap.size) ∨ g = (w5.alloc (.cells #[.int .i64 1] 3)).heap.size) (L := [⟨⟨7, [1], [], []⟩, some ⟨w5.heap.size, 0, none⟩, 1, none, 0⟩]) h2 rfl rfl (.inr (by simp)) (by
    intro q hq
    simp only [List.mem_cons, List.not_mem_nil, or_false] at hq
    subst hq
    exact ⟨rowI_lit h1 rfl (.inl (.inr rfl)), .inl rfl⟩)
  refine (oPut HC.out a2.1 [⟨7, [1], [], []⟩] (some ⟨w5.heap.size + 1, 0, none⟩) 1 hrow (by decide) fits5 al5).mono ?_; rintro e w6 ⟨O6, c6, K6, rfl, rO, hO, hK, hk, hb⟩
  have HO6 := Lib.hid hO
  have HB6 := Lib.hid (hbw.trans hb)
  have HR6 := Lib.hid (wR.wide hk hK)
  have HM6 := Lib.hid rO
  clear rO hrow h1 h2
  clear hO hK hk hb hbw a1 a2 wR HO5 HB5 HR5
  go_wp2_with fail
  refine (oGet HC.out HO6.out 2 (by decide)).mono ?_; rintro e w7 ⟨A7, k7, D7, d7, K7, he, r1, r2, hO, hK, hk, hb⟩
  rw [alG, alE] at he
  rw [alG] at r1
  subst he
  have hX : ∃ W8, W8 = w7.alloc (.cells #[.int .i64 7, .slice A7 1 k7, .slice D7 0 d7, .string ⟨#[]⟩] 40) := ⟨_, rfl⟩
  have a1 := One.al HC.out hO (.cells #[.int .i64 7, .slice A7 1 k7, .slice D7 0 d7, .string ⟨#[]⟩] 40)
  have hbw := (HB6.out.trans hb).trans a1.2.2.1
  have wR := ((HR6.out.wide hk hK).wide a1.2.1 a1.2.2.2)
  have wM := ((HM6.out.wide hk hK).wide a1.2.1 a1.2.2.2)
  have wA := (r1.wide a1.2.1 a1.2.2.2)
  have HO8 := Lib.hid a1.1
  have HB8 := Lib.hid hbw
  obtain ⟨g2, o2, rfl, _, l2, c2'⟩ := wR.at (i := 0) (by decide)
  obtain ⟨g6, o6, rfl, _, l6, c6'⟩ := wM.at (i := 0) (by decide)
  obtain ⟨g7, o7, rfl, _, l7, c7'⟩ := wA.at (i := 0) (by decide)
  have e0 := c2' 0 1 rfl
  have e1 := c2' 1 2 rfl
  have e2 := c2' 2 1 rfl
  have e3 := c6' 0 2 rfl
  have e4 := c7' 0 1 rfl
  rw [Nat.add_zero] at e0 e3 e4
  clear hX hO hK hk hb hbw wR wM wA r1 r2 a1 HO6 HB6 HR6 HM6 c2' c6' c7'
  unfold ndV
  go_wp2_with fail
  clear e0 e1 e2 e3 e4
  refine (oLen HC.out HO8.out).mono ?_; rintro e w9 ⟨K9, rfl, hO, hK, hk, hb⟩
  have HO9 := Lib.hid hO
  have HB9 := Lib.hid (HB8.out.trans hb)
  clear hO hK hk hb HO8 HB8
  rw [alL]
  go_wp2_with fail
  refine (oRoom HC.out HO9.out).mono ?_; rintro e w10 ⟨K10, rfl, hO, hK, hk, hb⟩
  have HB10 := Lib.hid (HB9.out.trans hb)
  clear hO hK hk hb HO9 HB9
  go_wp2_with fail
  go_ret
  exact ⟨rfl, HB10.out⟩
end
end Go.Proofs.YtbjbbpbagnlkmaaDoor
namespace Go.Proofs.YtbjbbpbagnlkmaaDoor
open Go.ChangeShapes Go.WideShapes Go.ChangeAt Go.RowKit
theorem own : ownKnob Tryd.prog.godebug = none := by kernel_rfl
theorem yTab9 : (Tryd.prog.globals[0]?).map (·.type) = some 127 := by kernel_rfl
theorem cellsTab9 : Tryd.prog.cellsOf 127 = 20 := by kernel_rfl
theorem cellsU64 : Tryd.prog.cellsOf 108 = 1 := by kernel_rfl

theorem tab_of {w : World} (h : laidMet Tryd.prog Rows.arenaPlaysRow.laid w) : TabE w :=
  Lib.tabIs_of_head (rest := _) gTab9 yTab9 Tryd.underlying127 Tryd.underlying108 cellsU64 cellsTab9 h.tail.tail

def valsOf : DataW Unit → List Value
  | .agg ds => ds.map fun
    | .lit (.int k n) => .int k n
    | _ => .nilIface
  | _ => []
noncomputable def laidWorld (os : Os) : World :=
  let w0 := World.holding Tryd.prog os ⟨#[], #[], []⟩
  let put (h : Array Obj) (g : Nat) (cs : Array Value) : Array Obj := h.modify g fun
    | .cells _ t frozen => .cells cs t frozen
    | o => o
  let h2 := put w0.heap 0 (valsOf Rows.laid_internal_strconv_uint64pow10).toArray
  let h3 := put h2 1 (valsOf Rows.laid_math_bits_deBruijn32tab).toArray
  let h4 := put h3 2 (valsOf Rows.laid_math_bits_deBruijn64tab).toArray
  { w0 with heap := h4 }
theorem laid_met (os : Os) (args : Array Value) : laidMet Tryd.prog Rows.arenaPlaysRow.laid ((laidWorld os).forCall (fun _ _ => 0) ⟨#[], args, []⟩).memory :=
  laidMet_of_run' 8 (by kernel_rfl) (by kernel_rfl)
theorem actsOk {l : List AcM} (h : ∀ q ∈ l, OkA q) : ∀ q ∈ l, (0 ≤ q.kind ∧ q.kind ≤ 255) ∧ (q.roots.length ≤ maxLen ∧ q.L.length ≤ maxLen) ∧ B64s q.roots ∧ ∀ n ∈ q.L, (n.refs.length ≤ maxLen ∧ n.nums.length ≤ maxLen ∧ n.text.length ≤ maxLen) ∧ B64s n.refs ∧ B64s n.nums ∧ -9223372036854775808 ≤ n.kind ∧ n.kind ≤ 9223372036854775807 := fun q hq => by
  obtain ⟨h1, h2, h3, h4, h5⟩ := h q hq
  refine ⟨h1, ⟨h4, h2⟩, h5, fun n hn => ?_⟩
  obtain ⟨a, b, c, d, e, f⟩ := h3 n hn
  exact ⟨⟨a, b, d⟩, c, e, f⟩
end Go.Proofs.YtbjbbpbagnlkmaaDoor
namespace Go.Proofs.YtbjbbpbagnlkmaaDoor
open Go.RowKit
theorem sweep_live {s : Sh} {roots : List Int} (h : ∀ r ∈ roots, live s r = true) : sweepA s roots = (leftA s roots, (liveA s).length - (reachA s roots).length, 0) :=
  sweep_yes (List.all_eq_true.2 fun r hr => by simp [h r hr])
theorem live_left (s : Sh) (roots : List Int) : liveA (leftA s roots) = reachA s roots := rfl
theorem sweep_again {room : Nat} {s : Sh} (hi : Inv room s) {roots : List Int} (h : ∀ r ∈ roots, live s r = true) : sweepA (leftA s roots) roots = (leftA s roots, 0, 0) := by
  have hr : ∀ r ∈ roots, live (leftA s roots) r = true := fun r hm => (left_live hi roots r).2 (.root r hm (h r hm))
  rw [sweep_live hr, left_left hi]
  have : reachA (leftA s roots) roots = liveA (leftA s roots) := by unfold reachA; rw [left_left hi]
  rw [this, Nat.sub_self]
theorem getN_left {s : Sh} {roots : List Int} {x : Int} (h : getE (leftA s roots) x = 0) : getN (leftA s roots) x = getN s x := by
  unfold getE at h
  have hl : live (leftA s roots) x = true := by
    cases e : live (leftA s roots) x with
    | true => rfl
    | false => rw [e] at h; cases h
  unfold live at hl
  unfold getN
  rw [left_at] at hl ⊢
  split
  · rfl
  · rename_i hn
    rw [if_neg hn] at hl; cases hl
theorem liveF_rise : ∀ (s : Sh) (k : Int), (liveF k s).Pairwise (· < ·) ∧ ∀ x ∈ liveF k s, k ≤ x
  | [], _ => ⟨by rw [liveF]; exact List.Pairwise.nil, fun x hx => by rw [liveF] at hx; cases hx⟩
  | none :: s, k => by
    have ⟨h1, h2⟩ := liveF_rise s (k + 1)
    rw [liveF]
    exact ⟨h1, fun x hx => by have := h2 x hx; omega⟩
  | some _ :: s, k => by
    have ⟨h1, h2⟩ := liveF_rise s (k + 1)
    rw [liveF]
    refine ⟨List.pairwise_cons.2 ⟨fun x hx => by have := h2 x hx; omega, h1⟩, fun x hx => ?_⟩
    rcases List.mem_cons.1 hx with e | e
    · omega
    · have := h2 x e; omega
theorem live_apart {room : Nat} {s : Sh} (hi : Inv room s) {i k : Nat} {x y : Int} (hx : (liveA s)[i]? = some x) (hy : (liveA s)[k]? = some y) (hik : k < i) : getN s x ≠ getN s y := by
  have hl1 := liveA_mem.1 (List.mem_of_getElem? hx)
  have hl2 := liveA_mem.1 (List.mem_of_getElem? hy)
  obtain ⟨n, hn⟩ := live_iff.1 hl1
  obtain ⟨n', hn'⟩ := live_iff.1 hl2
  intro e
  unfold getN at e
  rw [hn, hn'] at e
  have e2 : n = n' := e
  subst e2
  have hxy := hi.one x y n hn hn'
  have hp := (liveF_rise s 1).1
  obtain ⟨l1, e1⟩ := List.getElem?_eq_some_iff.1 hx
  obtain ⟨l2, e2⟩ := List.getElem?_eq_some_iff.1 hy
  have := List.pairwise_iff_getElem.1 hp k i l2 l1 hik
  unfold liveA at e1 e2
  rw [e1, e2] at this
  omega
end Go.Proofs.YtbjbbpbagnlkmaaDoor
namespace Go.Proofs.YtbjbbpbagnlkmaaDoor
open Go.RowKit
def RowU (w : World) (P : Nat → Prop) (A : Option Addr) (l : List Int) : Prop := l = [] ∨ ∃ g o, A = some ⟨g, o, none⟩ ∧ P g ∧ g < w.heap.size ∧ ∀ (i : Nat) (x : Int), l[i]? = some x → w.cell? ⟨g, o + i, none⟩ = some (.int .u8 x)
theorem RowU.kept {w w' : World} {P : Nat → Prop} {A : Option Addr} {l : List Int} (h : RowU w P A l) (hk : Kept w w' P) : RowU w' P A l := by
  rcases h with h | ⟨g, o, rfl, hp, hl, hc⟩
  · exact .inl h
  · exact .inr ⟨g, o, rfl, hp, Nat.lt_of_lt_of_le hl hk.size, fun i x hi => hk.cell hp (hc i x hi)⟩
theorem RowU.at {w : World} {P : Nat → Prop} {A : Option Addr} {l : List Int} (h : RowU w P A l) {i : Nat} (hi : i < l.length) : ∃ g o, A = some ⟨g, o, none⟩ ∧ P g ∧ g < w.heap.size ∧ ∀ (i : Nat) (x : Int), l[i]? = some x → w.cell? ⟨g, o + i, none⟩ = some (.int .u8 x) := by
  rcases h with rfl | h
  · simp at hi
  · exact h
theorem RowI.wide' {w w' : World} {K K' : Nat → Prop} {A : Option Addr} {l : List Int} (h : RowI w K A l) (hk : Kept w w' K) (hK : ∀ g, K g → K' g) : RowI w' K' A l := (h.kept hk).mono fun g hg _ => hK g hg
section
variable {EV : World → Prop} {AP : World → (Nat → Prop) → Nat → Nat → Sh → Prop}
theorem One.ints {w : World} {B a room : Nat} {s : Sh} {K : Nat → Prop} (h : One AP w B a room s K) {x : Int} (hx : live s x = true) (hr : room ≤ 65536) : -9223372036854775808 ≤ x ∧ x ≤ 9223372036854775807 := by
  have h1 := live_bound hx
  have h2 := h.inv.len
  omega
theorem One.al' {w : World} {B a room : Nat} {s : Sh} {K : Nat → Prop} (hC : AC B EV AP) (h : One AP w B a room s K) (o : Obj) : One AP (w.alloc o) B a room s (fun g => K g ∨ g = w.heap.size) ∧ Kept w (w.alloc o) K ∧ Below B w (w.alloc o) ∧ ∀ g, K g → (fun g => K g ∨ g = w.heap.size) g := by
  obtain ⟨⟨F, h1⟩, h2, h3⟩ := h.below hC ((Below.refl w.heap.size w).alloc (Nat.le_refl _) o)
  refine ⟨⟨F, ⟨h1.ap, h1.inv, h1.own, fun g hg => h1.keep g ?_, h1.base⟩⟩, h2, h3, fun g hg => .inl hg⟩
  rcases hg with hg | hg
  · exact .inl hg
  · exact .inr ⟨by omega, by rw [hg]; simp⟩
theorem One.draw {w : World} {B a room : Nat} {s : Sh} {K : Nat → Prop} (hC : AC B EV AP) (h : One AP w B a room s K) (n : Nat) : One AP (w.drewN n) B a room s K := by
  obtain ⟨⟨F, h1⟩, _, _⟩ := h.below hC (below_drewN (Below.refl w.heap.size w) n)
  exact ⟨F, ⟨h1.ap, h1.inv, h1.own, fun g hg => h1.keep g (.inl hg), h1.base⟩⟩
theorem One.chg {w w' : World} {B a room : Nat} {s : Sh} {K : Nat → Prop} (hC : AC B EV AP) (h : One AP w B a room s K) (hk : ∀ g, ¬ K g → g < w.heap.size → w'.heap[g]? = w.heap[g]?) (hb : Below B w w') : One AP w' B a room s (fun g => K g ∨ (w.heap.size ≤ g ∧ g < w'.heap.size)) := by
  obtain ⟨F, h⟩ := h
  have hz := hb.size
  refine ⟨F, hC.kept h.ap ⟨hz, fun g hg hl => hk g (fun e => (h.keep g e).2 hg) hl⟩ hb, h.inv, fun g hg => by have := h.own g hg; omega, fun g hg => ?_, Nat.le_trans h.base hz⟩
  rcases hg with e | e
  · have := h.keep g e; exact ⟨by omega, this.2⟩
  · exact ⟨e.2, fun hf => by have := h.own g hf; omega⟩
theorem oGet2 {w : World} {B a room : Nat} {s : Sh} {K : Nat → Prop} (hC : AC B EV AP) (h : One AP w B a room s K) (x : Int) (hx : -9223372036854775808 ≤ x ∧ x ≤ 9223372036854775807) :
    Calls Tryd.prog 15 #[.pointer (some ⟨a, 0, none⟩), .int .i64 x] w fun e w' => ∃ A ca C cc K', e = .returned (.tuple #[ndV (getN s x) A ca C cc, .int .i64 (getE s x)]) ∧ RowI w' (fun g => K' g ∧ w.heap.size ≤ g) A (getN s x).refs ∧ RowI w' (fun g => K' g ∧ w.heap.size ≤ g) C (getN s x).nums ∧ One AP w' B a room s K' ∧ (∀ g, K g → K' g) ∧ Kept w w' K ∧ Below B w w' := by
  obtain ⟨F, h⟩ := h
  refine (hC.get h.ap h.inv x hx).mono fun e w' ⟨A, ca, C, cc, hr, F', r1, r2, haf⟩ => ?_
  obtain ⟨h1, h2, h3⟩ := h.op hC haf h.inv
  exact ⟨A, ca, C, cc, _, hr, r1.mono fun g hg hl => ⟨.inr ⟨hg.1, hl, hg.2⟩, hg.1⟩, r2.mono fun g hg hl => ⟨.inr ⟨hg.1, hl, hg.2⟩, hg.1⟩, ⟨_, h1⟩, fun g hg => .inl hg, h2, h3⟩
theorem One.fits' {w : World} {B a room : Nat} {s : Sh} {K : Nat → Prop} (hC : AC B EV AP) (h : One AP w B a room s K) (x : Int) : (getN s x).refs.length ≤ 1000000 ∧ (getN s x).nums.length ≤ 1000000 := by
  obtain ⟨F, h⟩ := h
  unfold getN
  cases e : ndAt s x with
  | none => exact ⟨by decide, by decide⟩
  | some n => exact hC.fits h.ap x n e
end
def C4 (w : World) (X : Nat) (n : Nd) (A : Option Addr) (ca : Nat) (B : Option Addr) (cb : Nat) : Prop :=
  X < w.heap.size ∧ w.cell? ⟨X, 0, none⟩ = some (.int .i64 n.kind) ∧ w.cell? ⟨X, 1, none⟩ = some (.slice A n.refs.length ca) ∧ w.cell? ⟨X, 2, none⟩ = some (.slice B n.nums.length cb) ∧ w.cell? ⟨X, 3, none⟩ = some (.string ⟨n.text.toArray⟩)
theorem C4.below {w w' : World} {X : Nat} {n : Nd} {A B : Option Addr} {ca cb : Nat} (h : C4 w X n A ca B cb) (hb : Below w.heap.size w w') : C4 w' X n A ca B cb :=
  ⟨Nat.lt_of_lt_of_le h.1 hb.size, keep_cell hb h.2.1, keep_cell hb h.2.2.1, keep_cell hb h.2.2.2.1, keep_cell hb h.2.2.2.2⟩
theorem C4.new (w : World) (n : Nd) (A : Option Addr) (ca : Nat) (B : Option Addr) (cb : Nat) : C4 (w.alloc (.cells #[.int .i64 n.kind, .slice A n.refs.length ca, .slice B n.nums.length cb, .string ⟨n.text.toArray⟩] 40)) w.heap.size n A ca B cb := by
  have hb := (MapKept.heap_alloc w (.cells #[.int .i64 n.kind, .slice A n.refs.length ca, .slice B n.nums.length cb, .string ⟨n.text.toArray⟩] 40)).1
  exact ⟨by simp, Lib.cell_of_heap hb 0, Lib.cell_of_heap hb 1, Lib.cell_of_heap hb 2, Lib.cell_of_heap hb 3⟩
structure Was (w : World) (K : Nat → Prop) (b : Nat) (v : Value) (O : Option Addr) (LV : List Int) (L : List NdM) : Prop where
  ints : RowI w (fun g => K g ∧ ¬ v.ownBlock = some g) O LV
  own : OwnR 40 4 ndW b w v L
  ok : ∀ k, v.ownBlock = some k → K k
  kids : ∀ q ∈ L, RowI w (fun g => K g ∧ ¬ v.ownBlock = some g) q.A q.n.refs ∧ RowI w (fun g => K g ∧ ¬ v.ownBlock = some g) q.B q.n.nums
theorem Was.lt {w : World} {K : Nat → Prop} {b : Nat} {v : Value} {O : Option Addr} {LV : List Int} {L : List NdM} (h : Was w K b v O LV L) : ∀ k, v.ownBlock = some k → b ≤ k ∧ k < w.heap.size := World.ownsRow.lt h.own
theorem Was.keep {w w' : World} {K K' : Nat → Prop} {b : Nat} {v : Value} {O : Option Addr} {LV : List Int} {L : List NdM} (h : Was w K b v O LV L) (hK : ∀ g, K g → K' g) (hk : Kept w w' K) : Was w' K' b v O LV L := by
  have hr : ∀ (A : Option Addr) (l : List Int), RowI w (fun g => K g ∧ ¬ v.ownBlock = some g) A l → RowI w' (fun g => K' g ∧ ¬ v.ownBlock = some g) A l := fun A l r => (r.kept ⟨hk.size, fun g hg hl => hk.block g hg.1 hl⟩).mono fun g hg _ => ⟨hK g hg.1, hg.2⟩
  exact ⟨hr _ _ h.ints, OwnR.block h.own fun k e => hk.block k (h.ok k e) (h.lt k e).2, fun k e => hK k (h.ok k e), fun q hq => ⟨hr _ _ (h.kids q hq).1, hr _ _ (h.kids q hq).2⟩⟩
theorem Was.nil {w : World} {K : Nat → Prop} {b : Nat} {O : Option Addr} {LV : List Int} (h : RowI w K O LV) : Was w K b (.slice none 0 0) O LV [] :=
  ⟨h.mono fun g hg _ => ⟨hg, fun e => (by cases e)⟩, World.ownsRow_nil _ _ _ _, fun k e => (by cases e), fun q hq => (by cases hq)⟩
theorem Was.push {w w' : World} {K : Nat → Prop} {b : Nat} {v : Value} {O : Option Addr} {LV : List Int} {L : List NdM} {q : NdM} {o : Obj} {g N cap : Nat} (h : Was w K b v O LV L)
    (hr : RowI w (fun g => K g ∧ ¬ v.ownBlock = some g) q.A q.n.refs ∧ RowI w (fun g => K g ∧ ¬ v.ownBlock = some g) q.B q.n.nums)
    (hown : OwnR 40 4 ndW b w' (.slice (some ⟨g, 0, none⟩) N cap) (L ++ [q])) (hg : (w.alloc o).grownBy w' v.ownBlock) (hat : v.ownBlock = some g ∨ g = (w.alloc o).heap.size) (hlt : g < w'.heap.size) (hKl : ∀ k, K k → k < w.heap.size) :
    Was w' (fun k => K k ∨ (w.heap.size ≤ k ∧ k < w'.heap.size)) b (.slice (some ⟨g, 0, none⟩) N cap) O LV (L ++ [q]) ∧ (∀ k, ¬ K k → k < w.heap.size → w'.heap[k]? = w.heap[k]?) ∧ w.heap.size < w'.heap.size := by
  have hz := hg.size
  have hza : (w.alloc o).heap.size = w.heap.size + 1 := by simp
  have hbl : ∀ k, k < w.heap.size → ¬ v.ownBlock = some k → w'.heap[k]? = w.heap[k]? := fun k hk hne => (hg.block k (by omega) (fun e => hne e.symm)).trans (Below.heap_alloc w o k hk)
  have hgn : ∀ k, k < w.heap.size → ¬ v.ownBlock = some k → ¬ k = g := fun k hk hne e => by
    rcases hat with h1 | h1
    · exact hne (e ▸ h1)
    · omega
  have hown' : ∀ k, (Value.slice (some ⟨g, 0, none⟩) N cap).ownBlock = some k → k = g := fun k e => own_of (g := g) rfl e
  have rr : ∀ (A : Option Addr) (l : List Int), RowI w (fun g => K g ∧ ¬ v.ownBlock = some g) A l → RowI w' (fun k => (K k ∨ (w.heap.size ≤ k ∧ k < w'.heap.size)) ∧ ¬ (Value.slice (some ⟨g, 0, none⟩) N cap).ownBlock = some k) A l := fun A l r => (r.kept (w' := w') ⟨by omega, fun k hk hl => hbl k hl hk.2⟩).mono fun k hk _ => ⟨.inl hk.1, fun e => hgn k (hKl k hk.1) hk.2 (hown' k e)⟩
  refine ⟨⟨rr _ _ h.ints, hown, fun k e => ?_, fun p hp => ?_⟩, fun k hk hl => hbl k hl fun e => hk (h.ok k e), by omega⟩
  · obtain rfl := hown' k e
    rcases hat with h1 | h1
    · exact .inl (h.ok _ h1)
    · exact .inr ⟨by omega, hlt⟩
  · rcases List.mem_append.1 hp with e | e
    · exact ⟨rr _ _ (h.kids p e).1, rr _ _ (h.kids p e).2⟩
    · obtain rfl : p = q := by simpa using e
      exact ⟨rr _ _ hr.1, rr _ _ hr.2⟩
theorem Was.at {w : World} {K : Nat → Prop} {b : Nat} {v : Value} {O : Option Addr} {LV : List Int} {L : List NdM} (h : Was w K b v O LV L) {k : Nat} {q : NdM} (hq : L[k]? = some q) : ∃ g o cap, v = .slice (some ⟨g, o, none⟩) L.length cap ∧ L.length ≤ cap ∧ RowN w (fun _ => True) (some ⟨g, o + k * 4, none⟩) [q.n] := by
  obtain ⟨A, cap, rfl, hc, hs⟩ := OwnR.shape (f := ndW) (fun _ => rfl) h.own
  obtain ⟨g, o, rfl, hat⟩ := hs (by rintro rfl; simp at hq)
  refine ⟨g, o, cap, rfl, hc, .inr ⟨g, o + k * 4, rfl, trivial, Lib.lt_of_cell (hat k q hq 0 _ rfl), fun j n hj => ?_⟩⟩
  cases j with
  | succ j => simp at hj
  | zero =>
    obtain rfl : q.n = n := by simpa using hj
    rw [Nat.zero_mul, Nat.add_zero]
    have hk := h.kids q (List.mem_of_getElem? hq)
    exact ⟨q.A, q.ca, q.B, q.cb, ⟨hat k q hq 0 _ rfl, hat k q hq 1 _ rfl, hat k q hq 2 _ rfl, hat k q hq 3 _ rfl⟩, hk.1.mono fun _ _ _ => trivial, hk.2.mono fun _ _ _ => trivial⟩
theorem Was.shape {w : World} {K : Nat → Prop} {b : Nat} {v : Value} {O : Option Addr} {LV : List Int} {L : List NdM} (h : Was w K b v O LV L) : ∃ A cap, v = .slice A L.length cap ∧ L.length ≤ cap := by
  obtain ⟨A, cap, rfl, hc, _⟩ := OwnR.shape (f := ndW) (fun _ => rfl) h.own
  exact ⟨A, cap, rfl, hc⟩
theorem anode_info : (Tryd.prog.info? 40).map (fun i => (i.zero, i.size, i.bytes)) = some (some (.agg #[.int .i64 0, .slice none 0 0, .slice none 0 0, .string ⟨#[]⟩]), 4, 72) := by kernel_rfl
structure Stay (AP : World → (Nat → Prop) → Nat → Nat → Sh → Prop) (w0 w : World) (a room : Nat) (t : Sh) (K : Nat → Prop) (b : Nat) (v : Value) (O : Option Addr) (LV : List Int) (L : List NdM) (RA : Option Addr) (R : List Int) : Prop where
  one : One AP w w0.heap.size a room t K
  was : Was w K b v O LV L
  roots : RowI w K RA R
  old : ∀ g, g < w0.heap.size → K g
  under : Below w0.heap.size w0 w
section
variable {EV : World → Prop} {AP : World → (Nat → Prop) → Nat → Nat → Sh → Prop}
theorem Stay.op {w0 w w' : World} {a room : Nat} {t t' : Sh} {K K' : Nat → Prop} {b : Nat} {v : Value} {O : Option Addr} {LV : List Int} {L : List NdM} {RA : Option Addr} {R : List Int} (h : Stay AP w0 w a room t K b v O LV L RA R)
    (h1 : One AP w' w0.heap.size a room t' K') (hK : ∀ g, K g → K' g) (hk : Kept w w' K) (hb : Below w0.heap.size w w') : Stay AP w0 w' a room t' K' b v O LV L RA R :=
  ⟨h1, h.was.keep hK hk, h.roots.wide' hk hK, fun g hg => hK g (h.old g hg), h.under.trans hb⟩
theorem Stay.below {w0 w w' : World} {a room : Nat} {t : Sh} {K : Nat → Prop} {b : Nat} {v : Value} {O : Option Addr} {LV : List Int} {L : List NdM} {RA : Option Addr} {R : List Int} (hC : AC w0.heap.size EV AP) (h : Stay AP w0 w a room t K b v O LV L RA R)
    (hb : Below w.heap.size w w') : Stay AP w0 w' a room t (fun g => K g ∨ (w.heap.size ≤ g ∧ g < w'.heap.size)) b v O LV L RA R := by
  obtain ⟨h1, h2, h3⟩ := h.one.below hC hb
  exact h.op h1 (fun g hg => .inl hg) h2 h3
end
def CmpR (b : Bool) (w : World) (v : Value) (wx : World) : Prop := v = .bool b ∧ Below w.heap.size w wx
end Go.Proofs.YtbjbbpbagnlkmaaDoor
namespace Go.Proofs.YtbjbbpbagnlkmaaDoor
open Go.ChangeShapes Go.WideShapes Go.RowKit Go.Deep
section
variable {H : Type} {enc : TypeId × Value → H} {w : World} {base : Nat} {spare : Nat → Bool} {held : Bool}
def u8W (x : Int) : List Value := [.int .u8 x]
set_option maxRecDepth 100000 in
theorem open_bytes {r : Reach} {b0 : Nat} {v : Value} {d : DataW H} {p : List MemPlace} (hv : Value.okWide Tryd.prog w r b0 53 v) (h : DataW.Trod enc Tryd.prog w base spare held 53 v d p) :
    ∃ (l : List Int) (A : Option Addr) (cap : Nat), v = .slice A l.length cap ∧ l.length ≤ maxLen ∧ (∀ x ∈ l, 0 ≤ x ∧ x ≤ 255) ∧ RowU w (fun g => g < w.heap.size) A l := by
  obtain ⟨l, A, cap, e, hl, ho, ha⟩ := open_rows u8W (fun x => 0 ≤ x ∧ x ≤ 255) (fun _ => rfl) Tryd.underlying53 cellsU (by decide) (fun {fuel cs x} hl ht => by
    match cs, hl with
    | [c0], _ =>
      obtain ⟨a, h0, _, wa⟩ := DataW.trod_int Tryd.underlying5 ht
      simp at h0
      subst h0
      have e1 : IntKind.u8.min = 0 := rfl
      have e2 : IntKind.u8.max = 255 := rfl
      simp [Lit.wf, e1, e2] at wa
      exact ⟨a, rfl, wa⟩) hv h
  refine ⟨l, A, cap, e, hl, ho, ?_⟩
  cases l with
  | nil => exact .inl rfl
  | cons a l =>
    obtain ⟨g, o, rfl, hat⟩ := ha (by simp)
    have hg : g < w.heap.size := Lib.lt_of_cell (hat 0 a rfl 0 _ rfl)
    refine .inr ⟨g, o, rfl, hg, hg, fun i q hi => ?_⟩
    have := hat i q hi 0 _ rfl
    rw [Nat.mul_one, Nat.add_zero] at this
    exact this
set_option maxRecDepth 100000 in
theorem open_byte {r : Reach} {b0 : Nat} {v : Value} {d : DataW H} {p : List MemPlace} (hv : Value.okWide Tryd.prog w r b0 5 v) (h : DataW.Trod enc Tryd.prog w base spare held 5 v d p) : ∃ n : Nat, n ≤ 255 ∧ v = .int .u8 (n : Int) := by
  obtain ⟨a, e, _, _, wa⟩ := open_int Tryd.underlying5 hv h
  have e1 : IntKind.u8.min = 0 := rfl
  have e2 : IntKind.u8.max = 255 := rfl
  simp [Lit.wf, e1, e2] at wa
  exact ⟨a.toNat, by omega, by rw [e, Int.toNat_of_nonneg wa.1]⟩
end
end Go.Proofs.YtbjbbpbagnlkmaaDoor
