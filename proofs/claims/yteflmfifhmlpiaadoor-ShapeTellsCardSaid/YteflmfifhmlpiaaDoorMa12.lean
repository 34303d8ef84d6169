/- Texts joined: TaA, FrameH, RfA. -/
import Derived.Test.YteflmfifhmlpiaaDoorMa09
import Derived.Test.YteflmfifhmlpiaaDoorMa08
import Derived.WalkKit
import Derived.OpenShut
import Derived.Deep.Slices
import Derived.ChangeSame
import Derived.Test.YteflmfifhmlpiaaDoorRows
import Derived.Test.YteflmfifhmlpiaaDoorMa01
import Derived.Test.YteflmfifhmlpiaaDoorMa11
import Derived.ProofKit
import Derived.Lib.SmallJoins
import Derived.Deep.DeepHandedRow
import Derived.Lib.LaidTab
import Derived.Stop.LaidErr
import Derived.LaidLaws
import Derived.Lib.LaidIn
import Derived.RangeFuncNested
import Derived.RangeFuncBound
import Derived.RangeFuncCalls
import Derived.RangeFuncLeaves
import Derived.Below
import Derived.OwnWalk
import Derived.Lib.AtoiErrMem
import Derived.Test.YteflmfifhmlpiaaDoorProg
set_option linter.all false
set_option linter.unusedVariables false
set_option linter.unusedSimpArgs false
namespace Go.Proofs.YteflmfifhmlpiaaDoor
open Go.ChangeShapes Go.WideShapes Go.RowKit Go.Deep

theorem laidOutT : laidOutB Tryd.prog = true := by kernel_rfl
theorem cells_tree : Tryd.prog.cellsOf 29 = 8 := by kernel_rfl
theorem cells_kind : Tryd.prog.cellsOf 22 = 1 := by kernel_rfl
theorem cells_int : Tryd.prog.cellsOf 3 = 1 := by kernel_rfl
theorem cells_range : Tryd.prog.cellsOf 26 = 4 := by kernel_rfl
theorem cells_place : Tryd.prog.cellsOf 24 = 2 := by kernel_rfl
theorem cells_str : Tryd.prog.cellsOf 9 = 1 := by kernel_rfl
theorem cells_kids : Tryd.prog.cellsOf 27 = 1 := by kernel_rfl
def leaf0 : Tr := .mk 2 0 0 0 0 0 [] []
section
variable {H : Type} {enc : TypeId × Value → H} {w : World} {base : Nat} {spare : Nat → Bool} {held : Bool}
theorem trodPlace {fuel : Nat} {cs : List Value} {x : DataW H × List MemPlace} (hl : cs.length = 2) (h : DataW.trod enc Tryd.prog w base spare held fuel 24 cs = some x) :
    ∃ a b : Int, cs = [.int .i64 a, .int .i64 b] := by
  match cs, hl with
  | [c0, c1], _ =>
    obtain ⟨y0, y1, n, rfl, _, hy0, hy1⟩ := trod_struct2 Tryd.underlying24 h
    simp only [cells_int] at hy0 hy1
    obtain ⟨a, e0, rfl, wa⟩ := DataW.trod_int Tryd.underlying3 hy0
    obtain ⟨b, e1, rfl, wb⟩ := DataW.trod_int Tryd.underlying3 hy1
    simp at e0 e1
    subst e0 e1
    exact ⟨a, b, rfl⟩
theorem le_of_wf {n : Int} (h : (Lit.int .i64 n).wf = true) : n ≤ 9223372036854775807 := by
  have e1 : IntKind.i64.min = -9223372036854775808 := rfl
  have e2 : IntKind.i64.max = 9223372036854775807 := rfl
  simp [Lit.wf, e1, e2] at h
  exact h.2
theorem words_of (s : ByteArray) : s = ⟨s.data.toList.toArray⟩ := by cases s; simp
set_option maxRecDepth 100000 in
set_option maxHeartbeats 2000000 in
theorem tree_of_trod : ∀ (fuel : Nat) {cs : List Value} {x : DataW H × List MemPlace}, DataW.trod enc Tryd.prog w base spare held fuel 29 cs = some x →
    ∃ (t : Tr) (A : Option Addr) (cap : Nat), cs = [.int .i64 t.kind, .int .i64 t.num, .int .i64 t.c1, .int .i64 t.r1, .int .i64 t.c2, .int .i64 t.r2, .string ⟨t.word.toArray⟩, .slice A t.kids.length cap] ∧ KV w (fun _ => True) t A ∧ Wid t ∧ Fit t := by
  intro fuel
  induction fuel using Nat.strongRecOn with
  | ind fuel ih =>
  intro cs x h
  obtain ⟨xs, n, rfl, rfl, hcl, hxl, hf⟩ := DataW.trod_struct Tryd.underlying29 h
  rw [cells_tree] at hcl
  obtain ⟨c0, c1, c2, c3, c4, c5, c6, c7, rfl⟩ : ∃ c0 c1 c2 c3 c4 c5 c6 c7, cs = [c0, c1, c2, c3, c4, c5, c6, c7] := by
    match cs, hcl with
    | [a, b, c, d, e, f, g, h], _ => exact ⟨a, b, c, d, e, f, g, h, rfl⟩
  match xs, hxl with
  | [y0, y1, y2, y3, y4], _ =>
  have g0 : DataW.trod enc Tryd.prog w base spare held n 22 [c0] = some y0 := by have := hf 0 _ rfl; rw [show ∀ z : TypeId, z = 22 → Tryd.prog.cellsOf z = 1 from fun z hz => by rw [hz]; exact cells_kind] at this; exact this; rfl
  have g1 : DataW.trod enc Tryd.prog w base spare held n 3 [c1] = some y1 := by have := hf 1 _ rfl; rw [show ∀ z : TypeId, z = 3 → Tryd.prog.cellsOf z = 1 from fun z hz => by rw [hz]; exact cells_int] at this; exact this; rfl
  have g2 : DataW.trod enc Tryd.prog w base spare held n 26 [c2, c3, c4, c5] = some y2 := by have := hf 2 _ rfl; rw [show ∀ z : TypeId, z = 26 → Tryd.prog.cellsOf z = 4 from fun z hz => by rw [hz]; exact cells_range] at this; exact this; rfl
  have g3 : DataW.trod enc Tryd.prog w base spare held n 9 [c6] = some y3 := by have := hf 3 _ rfl; rw [show ∀ z : TypeId, z = 9 → Tryd.prog.cellsOf z = 1 from fun z hz => by rw [hz]; exact cells_str] at this; exact this; rfl
  have g4 : DataW.trod enc Tryd.prog w base spare held n 27 [c7] = some y4 := by have := hf 4 _ rfl; rw [show ∀ z : TypeId, z = 27 → Tryd.prog.cellsOf z = 1 from fun z hz => by rw [hz]; exact cells_kids] at this; exact this; rfl
  clear h hf
  obtain ⟨k, e0, _, _⟩ := DataW.trod_int Tryd.underlying22 g0
  obtain ⟨m, e1, _, wm⟩ := DataW.trod_int Tryd.underlying3 g1
  obtain ⟨p0, p1, n2, _, _, h0, h1⟩ := trod_struct2 Tryd.underlying26 g2
  simp only [cells_place] at h0 h1
  obtain ⟨a, b, e2⟩ := trodPlace rfl h0
  obtain ⟨c, d, e3⟩ := trodPlace rfl h1
  obtain ⟨s, e4, _, _⟩ := DataW.trod_string Tryd.underlying9 g3
  simp at e0 e1 e2 e3 e4
  obtain ⟨rfl, rfl⟩ := e2
  obtain ⟨rfl, rfl⟩ := e3
  subst e0 e1 e4
  have hm := le_of_wf wm
  clear g0 g1 g2 g3 h0 h1
  rcases DataW.trod_slice Tryd.underlying27 g4 with ⟨e5, _⟩ | ⟨ad, len, cap, el, rs, n4, rfl, e5, _, _, hlc, hcm, hel, helem, _, _⟩
  · simp at e5
    subst e5
    exact ⟨.mk k m a b c d s.data.toList [], none, 0, by simp [Tr.kind, Tr.num, Tr.c1, Tr.r1, Tr.c2, Tr.r2, Tr.word, Tr.kids], KV.mk (.inl rfl), .mk (Nat.zero_le _) (fun t ht => by cases ht), .mk hm (fun t ht => by cases ht)⟩
  · simp at e5
    subst e5
    have key : ∀ i, i < len → ∃ q : Tr × Option Addr × Nat, (w.cell? (ad.add (i * 8)) = some (.int .i64 q.1.kind) ∧ w.cell? (ad.add (i * 8 + 1)) = some (.int .i64 q.1.num) ∧ w.cell? (ad.add (i * 8 + 2)) = some (.int .i64 q.1.c1) ∧ w.cell? (ad.add (i * 8 + 3)) = some (.int .i64 q.1.r1) ∧
        w.cell? (ad.add (i * 8 + 4)) = some (.int .i64 q.1.c2) ∧ w.cell? (ad.add (i * 8 + 5)) = some (.int .i64 q.1.r2) ∧ w.cell? (ad.add (i * 8 + 6)) = some (.string ⟨q.1.word.toArray⟩) ∧ w.cell? (ad.add (i * 8 + 7)) = some (.slice q.2.1 q.1.kids.length q.2.2)) ∧ KV w (fun _ => True) q.1 q.2.1 ∧ Wid q.1 ∧ Fit q.1 := by
      intro i hi
      have h1 := helem i hi
      rw [cells_tree] at h1
      obtain ⟨y, hy⟩ : ∃ y, el[i]? = some y := ⟨el[i]'(by omega), List.getElem?_eq_getElem (by omega)⟩
      rw [hy] at h1
      obtain ⟨ce, hce, hte⟩ := Option.bind_eq_some_iff.1 h1
      obtain ⟨t, A, ca, rfl, hk, hw, hfi⟩ := ih n4 (by omega) hte
      obtain ⟨_, _, hcell⟩ := World.cells?_some hce
      refine ⟨(t, A, ca), ⟨?_, ?_, ?_, ?_, ?_, ?_, ?_, ?_⟩, hk, hw, hfi⟩
      · have := hcell 0 (by omega); rw [add_add] at this; simpa using this
      · have := hcell 1 (by omega); rw [add_add] at this; simpa using this
      · have := hcell 2 (by omega); rw [add_add] at this; simpa using this
      · have := hcell 3 (by omega); rw [add_add] at this; simpa using this
      · have := hcell 4 (by omega); rw [add_add] at this; simpa using this
      · have := hcell 5 (by omega); rw [add_add] at this; simpa using this
      · have := hcell 6 (by omega); rw [add_add] at this; simpa using this
      · have := hcell 7 (by omega); rw [add_add] at this; simpa using this
    haveI : Inhabited (Tr × Option Addr × Nat) := ⟨(leaf0, none, 0)⟩
    obtain ⟨Q, hQ⟩ := choose_lt key
    have hlen : ((List.range len).map fun i => (Q i).1).length = len := by simp
    refine ⟨.mk k m a b c d s.data.toList ((List.range len).map fun i => (Q i).1), some ad, cap, by simp [Tr.kind, Tr.num, Tr.c1, Tr.r1, Tr.c2, Tr.r2, Tr.word, Tr.kids], KV.mk ?_, .mk (by rw [hlen]; omega) (fun t ht => ?_), .mk hm (fun t ht => ?_)⟩
    · by_cases hz : len = 0
      · left; subst hz; rfl
      · right
        obtain ⟨g, o, spot⟩ := ad
        have h00 := (hQ 0 (by omega)).1.1
        have hspot : spot = none := by simpa [Addr.add] using World.cell?_spot h00
        subst hspot
        refine ⟨g, o, rfl, trivial, ?_, KL.of fun i t hi => ?_⟩
        · rw [add_plain] at h00
          exact Lib.lt_of_cell h00
        · have hi' : ((List.range len).map fun i => (Q i).1)[i]? = some t := hi
          have hlt : i < len := by
            have := (List.getElem?_eq_some_iff.1 hi').1
            simpa using this
          have hq : (Q i).1 = t := by simpa [hlt] using hi'
          obtain ⟨⟨q0, q1, q2, q3, q4, q5, q6, q7⟩, hk, _, _⟩ := hQ i hlt
          rw [add_plain] at q0 q1 q2 q3 q4 q5 q6 q7
          rw [hq] at q0 q1 q2 q3 q4 q5 q6 q7 hk
          refine ⟨(Q i).2.1, (Q i).2.2, ?_, hk⟩
          rw [Nat.mul_comm 8 i]
          exact ⟨q0, q1, q2, q3, q4, q5, q6, q7⟩
    · obtain ⟨i, hi, rfl⟩ := List.mem_map.1 ht
      exact (hQ i (by simpa using hi)).2.2.1
    · obtain ⟨i, hi, rfl⟩ := List.mem_map.1 ht
      exact (hQ i (by simpa using hi)).2.2.2
set_option maxRecDepth 100000 in
theorem open_tree {r : Reach} {b0 : Nat} {v : Value} {d : DataW H} {p : List MemPlace} (hv : Value.okWide Tryd.prog w r b0 29 v) (h : DataW.Trod enc Tryd.prog w base spare held 29 v d p) :
    ∃ (t : Tr) (A : Option Addr) (cap : Nat), v = tv t A cap ∧ KV w (fun _ => True) t A ∧ Wid t ∧ Fit t := by
  obtain ⟨cs, rfl, hsz⟩ := okWide_struct Tryd.underlying29 hv
  obtain ⟨fuel, hf⟩ := h
  obtain ⟨t, A, cap, he, hk, hw, hfi⟩ := tree_of_trod fuel hf
  refine ⟨t, A, cap, ?_, hk, hw, hfi⟩
  unfold tv
  obtain ⟨l⟩ := cs
  simp [Value.cells] at he
  rw [he]
end
end Go.Proofs.YteflmfifhmlpiaaDoor
namespace Go.Proofs.YteflmfifhmlpiaaDoor
open Go.ChangeShapes Go.WideShapes Go.ChangeAt Go.RowKit

theorem own : ownKnob Tryd.prog.godebug = none := by kernel_rfl
theorem gStr : Tryd.prog.globalNamed "gridiron/syntax.strengths" = some 0 := by kernel_rfl
theorem yStr : (Tryd.prog.globals[0]?).map (·.type) = some 109 := by kernel_rfl
theorem cellsStr : Tryd.prog.cellsOf 9 = 1 := by kernel_rfl
theorem cellsRow : Tryd.prog.cellsOf 108 = 1 := by kernel_rfl
theorem cellsThree : Tryd.prog.cellsOf 109 = 3 := by kernel_rfl
theorem cellsPlace : Tryd.prog.cellsOf 24 = 2 := by kernel_rfl
theorem ba_of_list {s : ByteArray} {l : List UInt8} (h : s.data.toList = l) : s = ⟨l.toArray⟩ := by
  obtain ⟨d⟩ := s
  simp only at h
  rw [← h]
theorem strs_of_trod {w : World} {fuel : Nat} {c : Value} {y : DataW Unit × List MemPlace} {l : List ByteArray} (hl : 0 < l.length)
    (h : DataW.trod (fun _ => ()) Tryd.prog w 0 (fun _ => true) false fuel 108 [c] = some y) (hy : y.1 = .slice (l.map fun s => .lit (.string s.data.toList)) []) :
    ∃ g o cap, c = .slice (some ⟨g, o, none⟩) l.length cap ∧ SAt w g o l := by
  rcases DataW.trod_slice Tryd.underlying108 h with ⟨_, hx⟩ | ⟨a, len, cap, el, rs, m, rfl, hcs, hx, _, hlc, _, hel, helem, hsp, _⟩
  · rw [hx] at hy; cases hy
  rw [hx] at hy
  simp only [DataW.slice.injEq] at hy
  obtain ⟨eE, eR⟩ := hy
  have hlen : len = l.length := by
    have := congrArg List.length eE
    simp at this
    omega
  have hcell : ∀ i (s : ByteArray), l[i]? = some s → w.cell? (a.add i) = some (.string s) := by
    intro i s hi
    have hil : i < l.length := (List.getElem?_eq_some_iff.1 hi).1
    have h1 := helem i (by omega)
    rw [cellsStr] at h1
    obtain ⟨b, hb⟩ : ∃ b, el[i]? = some b := ⟨el[i]'(by omega), List.getElem?_eq_getElem (by omega)⟩
    rw [hb] at h1
    obtain ⟨ce, hce, hte⟩ := Option.bind_eq_some_iff.1 h1
    obtain ⟨z, hz, hbz, _⟩ := DataW.trod_string Tryd.underlying9 hte
    have hb1 : b.1 = .lit (.string s.data.toList) := by
      have h5 : (el.map (·.1))[i]? = some b.1 := by rw [List.getElem?_map, hb]; rfl
      rw [eE, List.getElem?_map, hi] at h5
      exact (Option.some.inj h5).symm
    rw [hbz] at hb1
    simp only [DataW.lit.injEq, Lit.string.injEq] at hb1
    have hzs : z = s := by
      have := ba_of_list hb1
      rw [this]
    obtain ⟨_, _, hcc⟩ := World.cells?_some hce
    have := hcc 0 (by omega)
    rw [hz] at this
    simp only [Nat.mul_one] at this
    have e1 : (a.add i).add 0 = a.add i := by simp [Addr.add]
    rw [e1] at this
    rw [this, hzs]
    rfl
  obtain ⟨R, o, sR⟩ := a
  obtain ⟨s0, hs0⟩ : ∃ s, l[0]? = some s := ⟨l[0]'hl, List.getElem?_eq_getElem hl⟩
  have h00 := hcell 0 s0 hs0
  have hspot : sR = none := by simpa [Addr.add] using World.cell?_spot h00
  subst hspot
  refine ⟨R, o, cap, ?_, fun j s hj => ?_⟩
  · simp only [List.cons.injEq, and_true] at hcs
    rw [hcs, hlen]
  · have := hcell j s hj
    rwa [add_plain] at this
theorem strs_of {w : World} {r : List (String × DataW Unit)} (h : laidMet Tryd.prog (("gridiron/syntax.strengths", Rows.laid_gridiron_syntax_strengths) :: r) w) : Strs w.heap.size w.heap.size w := by
  obtain ⟨ps, ⟨g, t, cs, fuel, p, q, hg, ht, hvar, hd, _, _⟩, _⟩ := h
  obtain rfl := Option.some.inj (gStr.symm.trans hg)
  obtain rfl := Option.some.inj (yStr.symm.trans ht)
  obtain ⟨l⟩ := cs
  cases fuel with
  | zero => simp [DataW.trod] at hd
  | succ fuel =>
    simp only [DataW.trod, Tryd.underlying109, cellsThree, cellsRow] at hd
    split at hd
    · rename_i hl
      obtain ⟨c0, c1, c2, rfl⟩ : ∃ c0 c1 c2, l = [c0, c1, c2] := by
        match l, hl with
        | [a, b, c], _ => exact ⟨a, b, c, rfl⟩
      have e : List.range 3 = [0, 1, 2] := rfl
      rw [e] at hd
      simp only [Option.map_eq_some_iff, List.mapM_cons, List.mapM_nil, Option.bind_eq_bind, Option.bind_eq_some_iff, Option.pure_def, Option.some.injEq] at hd
      obtain ⟨xs, ⟨y0, h0, _, ⟨y1, h1, _, ⟨y2, h2, _, rfl, rfl⟩, rfl⟩, rfl⟩, hx⟩ := hd
      have hx1 := congrArg Prod.fst hx
      simp only [Rows.laid_gridiron_syntax_strengths, List.map_cons, List.map_nil, DataW.agg.injEq, List.cons.injEq, and_true] at hx1
      obtain ⟨e0, e1, e2⟩ := hx1
      obtain ⟨g0, o0, k0, rfl, a0⟩ := strs_of_trod (l := strL 0) (by decide) h0 e0
      obtain ⟨g1, o1, k1, rfl, a1⟩ := strs_of_trod (l := strL 1) (by decide) h1 e1
      obtain ⟨g2, o2, k2, rfl, a2⟩ := strs_of_trod (l := strL 2) (by decide) h2 e2
      have v0 := World.var?_cell hg hvar 0
      have v1 := World.var?_cell hg hvar 1
      have v2 := World.var?_cell hg hvar 2
      have hG : 0 < w.heap.size := Lib.lt_of_cell v0
      have l0 : g0 < w.heap.size := Lib.lt_of_cell (a0 0 _ rfl)
      have l1 : g1 < w.heap.size := Lib.lt_of_cell (a1 0 _ rfl)
      have l2 : g2 < w.heap.size := Lib.lt_of_cell (a2 0 _ rfl)
      refine ⟨⟨Nat.ne_of_gt hG, hG⟩, fun i hi => ?_⟩
      match i, hi with
      | 0, _ => exact ⟨g0, o0, k0, ⟨Nat.ne_of_lt l0, l0⟩, v0, a0⟩
      | 1, _ => exact ⟨g1, o1, k1, ⟨Nat.ne_of_lt l1, l1⟩, v1, a1⟩
      | 2, _ => exact ⟨g2, o2, k2, ⟨Nat.ne_of_lt l2, l2⟩, v2, a2⟩
    · cases hd
theorem b63_of_wf {a : Int} (h : (Lit.int .i64 a).wf = true) : B63 a := by
  have e1 : IntKind.i64.min = -9223372036854775808 := rfl
  have e2 : IntKind.i64.max = 9223372036854775807 := rfl
  simp [Lit.wf, e1, e2] at h
  exact h
section
variable {H : Type} {enc : TypeId × Value → H} {w : World} {base : Nat} {spare : Nat → Bool} {held : Bool}
set_option maxRecDepth 100000 in
theorem open_place {r : Reach} {b0 : Nat} {v : Value} {d : DataW H} {p : List MemPlace} (hv : Value.okWide Tryd.prog w r b0 24 v) (h : DataW.Trod enc Tryd.prog w base spare held 24 v d p) :
    ∃ a b : Int, v = .agg #[.int .i64 a, .int .i64 b] ∧ d = .agg [.lit (.int .i64 a), .lit (.int .i64 b)] ∧ p = [] ∧ (Lit.int .i64 a).wf = true ∧ (Lit.int .i64 b).wf = true := by
  obtain ⟨c0, c1, y0, y1, m, rfl, rfl, rfl, hy0, hy1⟩ := Joins.open_agg2 Tryd.underlying24 (by kernel_rfl) cellsPlace hv h
  obtain ⟨a, e0, rfl, wa⟩ := DataW.trod_int Tryd.underlying3 hy0
  obtain ⟨b, e1, rfl, wb⟩ := DataW.trod_int Tryd.underlying3 hy1
  simp at e0 e1
  subst e0 e1
  exact ⟨a, b, rfl, rfl, rfl, wa, wb⟩
set_option maxRecDepth 100000 in
theorem shut_place {a b : Int} (wa : (Lit.int .i64 a).wf = true) (wb : (Lit.int .i64 b).wf = true) :
    DataW.Trod enc Tryd.prog w base spare held 24 (.agg #[.int .i64 a, .int .i64 b]) (.agg [.lit (.int .i64 a), .lit (.int .i64 b)]) [] :=
  Joins.shut_agg2 (y0 := (.lit (.int .i64 a), [])) (y1 := (.lit (.int .i64 b), [])) Tryd.underlying24 (by kernel_rfl) cellsPlace ⟨1, by simp [DataW.trod, Tryd.underlying3, wa]⟩ ⟨1, by simp [DataW.trod, Tryd.underlying3, wb]⟩
end
noncomputable def low : Nat := (World.holding Tryd.prog default ⟨#[], #[], []⟩).heap.size
noncomputable def laidWorld (os : Os) : World :=
  let w0 := World.holding Tryd.prog os ⟨#[.cells #[.string ⟨#[60]⟩, .string ⟨#[60, 61]⟩, .string ⟨#[61]⟩, .string ⟨#[60, 62]⟩, .string ⟨#[62, 61]⟩, .string ⟨#[62]⟩] 9, .cells #[.string ⟨#[43]⟩, .string ⟨#[45]⟩] 9, .cells #[.string ⟨#[42]⟩, .string ⟨#[47]⟩] 9], #[], []⟩
  let put (h : Array Obj) (g : Nat) (cs : Array Value) : Array Obj := h.modify g fun
    | .cells _ t frozen => .cells cs t frozen
    | o => o
  { w0 with heap := put w0.heap 0 #[.slice (some ⟨low, 0, none⟩) 6 6, .slice (some ⟨low + 1, 0, none⟩) 2 2, .slice (some ⟨low + 2, 0, none⟩) 2 2] }
set_option maxRecDepth 100000 in
theorem laid_met (os : Os) (args : Array Value) : laidMet Tryd.prog Rows.shapeTellsRow.laid ((laidWorld os).forCall (fun _ _ => 0) ⟨#[], args, []⟩).memory :=
  laidMet_of_run' 8 (by kernel_rfl) (by kernel_rfl)
end Go.Proofs.YteflmfifhmlpiaaDoor
namespace Go.Proofs.YteflmfifhmlpiaaDoor
open Go.RowKit

structure Sav (C : Nat → Prop) (w w' : World) : Prop where
  os : w'.os = w.os
  tape : w'.tape = w.tape
  output : w'.output = w.output
  size : w.heap.size ≤ w'.heap.size
  block : ∀ k, k < w.heap.size → ¬ C k → w'.heap[k]? = w.heap[k]?
theorem Sav.refl (C : Nat → Prop) (w : World) : Sav C w w := ⟨rfl, rfl, rfl, Nat.le_refl _, fun _ _ _ => rfl⟩
theorem Sav.trans {C : Nat → Prop} {a b c : World} (h : Sav C a b) (k : Sav C b c) : Sav C a c :=
  ⟨k.os.trans h.os, k.tape.trans h.tape, k.output.trans h.output, Nat.le_trans h.size k.size, fun i hi hn => (k.block i (Nat.lt_of_lt_of_le hi h.size) hn).trans (h.block i hi hn)⟩
theorem Sav.of_below {C : Nat → Prop} {w w' : World} (h : Below w.heap.size w w') : Sav C w w' := ⟨h.os, h.tape, h.output, h.size, fun k hk _ => h.block k hk⟩
theorem Sav.mono {C C' : Nat → Prop} {w w' : World} (h : Sav C w w') (hc : ∀ k, k < w.heap.size → C k → C' k) : Sav C' w w' := ⟨h.os, h.tape, h.output, h.size, fun k hk hn => h.block k hk fun hk' => hn (hc k hk hk')⟩
theorem Sav.below {C : Nat → Prop} {n : Nat} {w w' : World} (h : Sav C w w') (hn : ∀ k, k < n → ¬ C k) (hs : n ≤ w.heap.size) : Below n w w' := ⟨h.os, h.tape, h.output, h.size, fun k hk => h.block k (Nat.lt_of_lt_of_le hk hs) (hn k hk)⟩
theorem Sav.cell {C : Nat → Prop} {w w' : World} (h : Sav C w w') {p : Addr} {v : Value} (hn : ¬ C p.block) (hv : w.cell? p = some v) : w'.cell? p = some v := by
  rw [World.cell?_of_block (w := w) (h.block p.block (Lib.lt_of_cell hv) hn)]; exact hv
theorem Sav.frozen {C : Nat → Prop} {w w' : World} (h : Sav C w w') {p : Addr} (hn : ¬ C p.block) (hl : p.block < w.heap.size) (hv : w.frozen? p = false) : w'.frozen? p = false := by
  rw [World.frozen?_of_block (w := w) (h.block p.block hl hn)]; exact hv
theorem putObj_other {w : World} {r k : Nat} (o : Obj) (h : k ≠ r) : (w.putObj r o).heap[k]? = w.heap[k]? := World.putObj_heap_other h
theorem Sav.putObj {C : Nat → Prop} {a w : World} (h : Sav C a w) {r : Nat} (hr : C r ∨ a.heap.size ≤ r) (o : Obj) : Sav C a (w.putObj r o) :=
  ⟨h.os, h.tape, h.output, by rw [World.putObj_size]; exact h.size, fun k hk hn => by
    rw [putObj_other o (by rintro rfl; rcases hr with hr | hr; exact hn hr; omega)]
    exact h.block k hk hn⟩
theorem Sav.setCell {C : Nat → Prop} {a w : World} (h : Sav C a w) {g : Nat} (hr : C g ∨ a.heap.size ≤ g) (o : Nat) (u : Value) : Sav C a (w.setCell ⟨g, o, none⟩ u) := by
  have hb := (Below.refl 0 w).setCell (p := ⟨g, o, none⟩) (Nat.zero_le _) u
  refine ⟨hb.os.trans h.os, hb.tape.trans h.tape, hb.output.trans h.output, Nat.le_trans h.size hb.size, fun k hk hn => ?_⟩
  rw [Below.heap_setCell w ⟨g, o, none⟩ u k (by rcases hr with hr | hr; exact fun e => hn (e ▸ hr); exact fun e => by simp at e; omega)]
  exact h.block k hk hn
theorem Sav.alloc {C : Nat → Prop} {a w : World} (h : Sav C a w) (o : Obj) : Sav C a (w.alloc o) := h.trans (Sav.of_below ((Below.refl _ w).alloc (Nat.le_refl _) o))
theorem Sav.drew {C : Nat → Prop} {a w : World} (h : Sav C a w) : Sav C a w.drew := ⟨h.os, h.tape, h.output, h.size, h.block⟩
theorem below_putObj {B : Nat} {a w : World} (h : Below B a w) {r : Nat} (hr : B ≤ r) (o : Obj) : Below B a (w.putObj r o) :=
  ⟨h.os, h.tape, h.output, by rw [World.putObj_size]; exact h.size, fun k hk => by rw [putObj_other o (by omega)]; exact h.block k hk⟩
theorem cell_putObj {w : World} {l : Nat} {r : Loop} (h : w.heap[l]? = some (.loop r)) (o : Obj) {p : Addr} {v : Value} (hv : w.cell? p = some v) : (w.putObj l o).cell? p = some v := by
  by_cases e : p.block = l
  · exfalso
    subst e
    simp [World.cell?, h] at hv
  · rw [World.cell?_of_block (w := w) (putObj_other o e)]; exact hv

theorem Sav.from {C : Nat → Prop} {l : Nat} {w A B : World} (h : Sav C w A) (k : Sav (fun j => C j ∨ j = l) A B) (hl : w.heap.size ≤ l) : Sav C w B :=
  ⟨k.os.trans h.os, k.tape.trans h.tape, k.output.trans h.output, Nat.le_trans h.size k.size, fun i hi hn => (k.block i (Nat.lt_of_lt_of_le hi h.size) (by rintro (e | rfl); exact hn e; omega)).trans (h.block i hi hn)⟩

def Yields {α : Type} (P : Program) (g : Nat) (lb : Array Value) (xs : List α) (enc : α → Array Value → Prop) (S : Nat → Prop) (w : World) : Prop :=
  ∀ (l : Nat) (C : Nat → Prop) (J : Nat → World → Prop) (Jx : World → Prop) (W : World), Below w.heap.size w W → (∀ k, C k → k < W.heap.size ∧ ¬ S k) →
    (∀ i A B, Below W.heap.size A B → J i A → J i B) → (∀ A B, Below W.heap.size A B → Jx A → Jx B) →
    (∀ (m i : Nat) (x : α) (args : Array Value) (A : World), xs[i]? = some x → enc x args → Sav C W A → J i A →
      YieldAt Fence.wide m P l args A fun e B => Sav C A B ∧ (e = .returned (.bool true) ∧ J (i + 1) B ∨ e = .returned (.bool false) ∧ Jx B)) →
    J 0 W → Calls P g (#[.func (.yield l) #[] #[]] ++ lb) W fun e B => (∃ v, e = .returned v) ∧ Sav C W B ∧ (J xs.length B ∨ Jx B)

def leftR (C : Nat → Prop) (I : World → Prop) (Ix : Code → World → Prop) (W : World) : Exit → Act → World → Prop
  | .normal, _, B => Sav C W B ∧ I B
  | .ret, _, B => Sav C W B ∧ Ix .ret B
  | .exit id, _, B => Sav C W B ∧ Ix (.exit id) B
  | .goto t, _, B => Sav C W B ∧ Ix (.goto t) B
  | .panic _, _, _ => False
  | .outgrown, _, _ => False
theorem roundAny {m m' : Nat} {P : Program} {l : Nat} {f : FuncId} {tmps : Array Value} {assign body : Code} {w : World} {R : Ending → World → Prop} (h : RoundIn Fence.wide m P l f tmps assign body w R) : RoundIn Fence.wide m' P l f tmps assign body w R :=
  ⟨h.1, fun c cs _ => h.2 c cs (room_wide _)⟩

theorem wp_range {α : Type} {P : Program} {n : Nat} {g : Operand} {ps : Array Tmp} {assign body : Code} {Q : Exit → Act → World → Prop} {a : Act} {w : World}
    {gf : Nat} {lb : Array Value} (hg : a.eval g = .func (.func gf) #[] lb) (eg : ∀ args w, (callFunc gf args).run P w = .ok (.enter gf args) w)
    {xs : List α} {enc : α → Array Value → Prop} {S : Nat → Prop} {w0 : World} (hseq : Yields P gf lb xs enc S w0) (hb0 : Below w0.heap.size w0 w) (hps : ∀ x args, enc x args → args.size = ps.size)
    (C : Nat → Prop) (hC : ∀ k, C k → k < w.heap.size ∧ ¬ S k) (hS : ∀ k, S k → k < w.heap.size)
    (I : Nat → World → Prop) (Ix : Code → World → Prop) (hI : ∀ i A B, Below w.heap.size A B → I i A → I i B) (hIx : ∀ c A B, Below w.heap.size A B → Ix c A → Ix c B) (h0 : I 0 w)
    (Ax : α → Act → World → Prop) (hAx : ∀ x a' W l r o, W.heap[l]? = some (.loop r) → Ax x a' W → Ax x a' (W.putObj l o))
    (hassign : ∀ (l i : Nat) (x : α) (args : Array Value) (W : World) (K : Act → World → Prop), xs[i]? = some x → enc x args → w.heap.size ≤ W.heap.size → (∀ a' W', Below W.heap.size W W' → Ax x a' W' → K a' W') →
      assign.wpIn (Fence.wide.inRound l) n P (Exit.then K (fun _ _ _ => False)) { tmps := (ps.zip args).foldl (fun t (p, v) => t.setIfInBounds p v) a.tmps, defers := [] } W)
    (hbody : ∀ (l i : Nat) (x : α) (a' : Act) (W : World), xs[i]? = some x → Sav C w W → I i W → Ax x a' W → body.wpIn (Fence.wide.inRound l) n P (leftR C (I (i + 1)) Ix W) a' W)
    (hdone : ∀ (D : Nat) (W : World), w.heap.size ≤ D → Sav C w W → I xs.length W → W.heap[D]? = some (.deferred (some [])) → Q .normal { a with defers := { target := .collected D, args := #[] } :: a.defers } W)
    (hstop : ∀ (D : Nat) (c : Code) (W : World), w.heap.size ≤ D → Sav C w W → Ix c W → W.heap[D]? = some (.deferred (some [])) → c.wpIn Fence.wide n P Q { a with defers := { target := .collected D, args := #[] } :: a.defers } W) :
    (Code.rangeFunc g ps assign body).wpIn Fence.wide n P Q a w := by
  refine wpIn_rangeFunc ?_
  intro fn hfn
  obtain ⟨L, hL⟩ : ∃ L : LoopState → Option Code → Loop, L = fun st pe => { state := st, pending := pe, fn, tmps := a.tmps, params := ps, assign, body, defers := w.heap.size } := ⟨_, rfl⟩
  obtain ⟨V, hV⟩ : ∃ V, (w.alloc (.deferred (some []))).alloc (.loop (L .ready none)) = V := ⟨_, rfl⟩
  have hsz : V.heap.size = w.heap.size + 2 := by rw [← hV]; simp
  have hl0 : V.heap[w.heap.size + 1]? = some (.loop (L .ready none)) := by
    have := World.alloc_heap_new (w.alloc (.deferred (some []))) (.loop (L .ready none))
    rw [World.size_alloc] at this
    rw [← hV]; exact this
  have hd0 : V.heap[w.heap.size]? = some (.deferred (some [])) := by
    rw [← hV, Below.heap_alloc _ _ _ (by simp)]; exact World.alloc_heap_new w _
  have hbV : Below w.heap.size w V := by rw [← hV]; exact ((Below.refl _ w).alloc (Nat.le_refl _) _).alloc (by simp) _
  have hlen : ∀ k, C k → k ≠ w.heap.size + 1 ∧ k ≠ w.heap.size := fun k hk => by have := (hC k hk).1; omega
  refine ⟨w.heap.size + 1, [{ target := .collected w.heap.size, args := #[] }], V, { target := .fn (.func gf) lb, args := #[.func (.yield (w.heap.size + 1)) #[] #[]] }, V, gf, #[.func (.yield (w.heap.size + 1)) #[] #[]] ++ lb, V, ?_, ?_, fun _ _ => trivial, ?_, fun h => by simp [Fence.wide] at h, ?_⟩
  · rw [← hV, hL]; exact run_enterLoop_outer _ _ _ _ _
  · simp only [resolve, hg]
    simp [go_sem]
  · simp [invoke, go_sem, eg]
  refine callsIn_wide.2 ((hseq (w.heap.size + 1) (fun k => C k ∨ k = w.heap.size + 1)
    (fun i A => I i A ∧ A.heap[w.heap.size + 1]? = some (.loop (L .ready none)) ∧ A.heap[w.heap.size]? = some (.deferred (some [])))
    (fun A => ∃ c, Ix c A ∧ A.heap[w.heap.size + 1]? = some (.loop (L .done (some c))) ∧ A.heap[w.heap.size]? = some (.deferred (some []))) V (hb0.trans (hbV.mono hb0.size)) ?_ ?_ ?_ ?_ ?_).mono ?_)
  · rintro k (hk | rfl)
    · exact ⟨by have := (hC k hk).1; omega, (hC k hk).2⟩
    · exact ⟨by omega, fun h => by have := hS _ h; omega⟩
  · rintro i A B hb ⟨h1, h2, h3⟩
    exact ⟨hI i A B (hb.mono (by omega)) h1, (hb.block _ (by omega)).trans h2, (hb.block _ (by omega)).trans h3⟩
  · rintro A B hb ⟨c, h1, h2, h3⟩
    exact ⟨c, hIx c A B (hb.mono (by omega)) h1, (hb.block _ (by omega)).trans h2, (hb.block _ (by omega)).trans h3⟩
  · rintro m i x args A hx he hs ⟨h1, h2, h3⟩
    have hy := run_yield (P := P) (args := args) h2 (by rw [hL]; exact hps x args he)
    rw [hL] at hy
    have hsw : Sav C w A := Sav.from (Sav.of_below hbV) hs (by omega)
    refine ⟨fn, _, assign, body, hy, roundAny (m := n) (roundIn_of_wpIn trivial (hassign _ i x args A _ hx he hsw.size fun a' A1 b1 hax => ?_))⟩
    have l1 : A1.heap[w.heap.size + 1]? = some (.loop (L .ready none)) := (b1.block _ (Array.getElem?_eq_some_iff.1 h2).1).trans h2
    have d1 : A1.heap[w.heap.size]? = some (.deferred (some [])) := (b1.block _ (Array.getElem?_eq_some_iff.1 h3).1).trans h3
    have q1 : w.heap.size + 1 < A1.heap.size := (Array.getElem?_eq_some_iff.1 l1).1
    refine ⟨_, run_beginRound l1 (by rw [hL]), ?_⟩
    obtain ⟨A2, hA2⟩ : ∃ A2, A1.putObj (w.heap.size + 1) (.loop { L .ready none with state := .busy }) = A2 := ⟨_, rfl⟩
    have l2 : A2.heap[w.heap.size + 1]? = some (.loop (L .busy none)) := by rw [← hA2, World.putObj_heap_same q1, hL]
    have d2 : A2.heap[w.heap.size]? = some (.deferred (some [])) := by rw [← hA2, putObj_other _ (by omega)]; exact d1
    have s2 : Sav (fun k => C k ∨ k = w.heap.size + 1) A A2 := by rw [← hA2]; exact (Sav.of_below b1).putObj (.inl (.inr rfl)) _
    have q2 : w.heap.size + 1 < A2.heap.size := (Array.getElem?_eq_some_iff.1 l2).1
    have i2 : I i A2 := by
      rw [← hA2]
      exact hI i A1 _ (below_putObj (Below.refl _ _) (by omega) _) (hI i A A1 (b1.mono hsw.size) h1)
    have x2 : Ax x a' A2 := by rw [← hA2]; exact hAx x a' A1 _ _ _ l1 hax
    rw [hA2]
    refine wpIn_mono (hbody _ i x a' A2 hx (hsw.from s2 (by omega)) i2 x2) ?_
    have fin : ∀ (j : Option Code) (B : World), Sav C A2 B → ∃ B', (Instr.endRound (w.heap.size + 1) j).run P B = .ok (.bool j.isNone) B' ∧ B'.heap[w.heap.size + 1]? = some (.loop (L (if j.isNone then .ready else .done) j)) ∧
        B'.heap[w.heap.size]? = some (.deferred (some [])) ∧ Sav (fun k => C k ∨ k = w.heap.size + 1) A B' ∧ Below w.heap.size B B' := fun j B hB => by
      have l3 : B.heap[w.heap.size + 1]? = some (.loop (L .busy none)) := (hB.block _ q2 fun h => (hlen _ h).1 rfl).trans l2
      have d3 : B.heap[w.heap.size]? = some (.deferred (some [])) := (hB.block _ (by omega) fun h => (hlen _ h).2 rfl).trans d2
      have q3 : w.heap.size + 1 < B.heap.size := (Array.getElem?_eq_some_iff.1 l3).1
      refine ⟨_, run_endRound j l3, ?_, ?_, (s2.trans (hB.mono fun _ _ h => .inl h)).putObj (.inl (.inr rfl)) _, below_putObj (Below.refl _ _) (by omega) _⟩
      · rw [World.putObj_heap_same q3, hL]
      · rw [putObj_other _ (by omega)]; exact d3
    rintro e a3 B hp
    cases e with
    | normal =>
      obtain ⟨hB, hi⟩ := hp
      obtain ⟨B', r, l4, d4, s4, b4⟩ := fin none B hB
      exact ⟨_, B', r, s4, .inl ⟨rfl, hI _ _ _ b4 hi, l4, d4⟩⟩
    | ret =>
      obtain ⟨hB, hi⟩ := hp
      obtain ⟨B', r, l4, d4, s4, b4⟩ := fin (some .ret) B hB
      exact ⟨_, B', r, s4, .inr ⟨rfl, .ret, hIx _ _ _ b4 hi, l4, d4⟩⟩
    | exit id =>
      obtain ⟨hB, hi⟩ := hp
      obtain ⟨B', r, l4, d4, s4, b4⟩ := fin (some (.exit id)) B hB
      exact ⟨_, B', r, s4, .inr ⟨rfl, .exit id, hIx _ _ _ b4 hi, l4, d4⟩⟩
    | goto t =>
      obtain ⟨hB, hi⟩ := hp
      obtain ⟨B', r, l4, d4, s4, b4⟩ := fin (some (.goto t)) B hB
      exact ⟨_, B', r, s4, .inr ⟨rfl, .goto t, hIx _ _ _ b4 hi, l4, d4⟩⟩
    | panic ch => exact hp.elim
    | outgrown => exact hp.elim
  · exact ⟨hI 0 w V hbV h0, hl0, hd0⟩
  · rintro e B ⟨⟨v, rfl⟩, hs, hJ⟩
    have hsw : Sav C w B := Sav.from (Sav.of_below hbV) hs (by omega)
    rcases hJ with ⟨h1, h2, h3⟩ | ⟨c, h1, h2, h3⟩
    · exact ⟨none, _, by have := run_endLoop (P := P) h2 (by rw [hL]; simp); rw [hL] at this; exact this, hdone _ _ (Nat.le_refl _) (hsw.putObj (.inr (by omega)) _) (hI _ _ _ (below_putObj (Below.refl _ _) (by omega) _) h1) (by rw [putObj_other _ (by omega)]; exact h3)⟩
    · exact ⟨some c, _, by have := run_endLoop (P := P) h2 (by rw [hL]; simp); rw [hL] at this; exact this, hstop _ c _ (Nat.le_refl _) (hsw.putObj (.inr (by omega)) _) (hIx c _ _ (below_putObj (Below.refl _ _) (by omega) _) h1) (by rw [putObj_other _ (by omega)]; exact h3)⟩
end Go.Proofs.YteflmfifhmlpiaaDoor
