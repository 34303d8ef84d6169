/- What the rows' listed variables give a walk; one start that holds them; places and ranges, as data. -/
import Derived.Test.YtmophlfpoehopaaDoorRows
import Derived.Test.YtmophlfpoehopaaDoorEnvI
import Derived.WalkKit
import Derived.ProofKit
import Derived.OpenShut
import Derived.Deep.DeepHandedRow
import Derived.Lib.LaidTab
import Derived.Lib.SmallJoins
import Derived.Stop.LaidErr
import Derived.LaidLaws
import Derived.Lib.LaidIn
namespace Go.Proofs.YtmophlfpoehopaaDoor
open Go.ChangeShapes Go.WideShapes Go.ChangeAt Go.RowKit

theorem own : ownKnob Tryd.prog.godebug = none := by kernel_rfl
theorem yTab : (Tryd.prog.globals[0]?).map (·.type) = some 70 := by kernel_rfl
theorem cellsTab : Tryd.prog.cellsOf 70 = 20 := by kernel_rfl
theorem cellsU64 : Tryd.prog.cellsOf 58 = 1 := by kernel_rfl
theorem cellsInt : Tryd.prog.cellsOf 3 = 1 := by kernel_rfl
theorem cellsPlace : Tryd.prog.cellsOf 23 = 2 := by kernel_rfl
theorem cellsRange : Tryd.prog.cellsOf 37 = 4 := by kernel_rfl

theorem env_of {w : World} (h : laidMet Tryd.prog Rows.placeTellsRow.laid w) : EnvI w :=
  ⟨Lib.tabIs_of_head (rest := _) gTab yTab Tryd.underlying70 Tryd.underlying58 cellsU64 cellsTab h.tail.tail⟩

theorem b64_of_wf {a : Int} (h : (Lit.int .i64 a).wf = true) : B64 a := by
  have e1 : IntKind.i64.min = -9223372036854775808 := rfl
  have e2 : IntKind.i64.max = 9223372036854775807 := rfl
  simp [Lit.wf, e1, e2] at h
  exact h
section
variable {H : Type} {enc : TypeId × Value → H} {w : World} {base : Nat} {spare : Nat → Bool} {held : Bool}
/-- A PLACE, OPENED. -/
theorem open_place {r : Reach} {b0 : Nat} {v : Value} {d : DataW H} {p : List MemPlace} (hv : Value.okWide Tryd.prog w r b0 23 v) (h : DataW.Trod enc Tryd.prog w base spare held 23 v d p) :
    ∃ a b : Int, v = .agg #[.int .i64 a, .int .i64 b] ∧ d = .agg [.lit (.int .i64 a), .lit (.int .i64 b)] ∧ p = [] ∧ (Lit.int .i64 a).wf = true ∧ (Lit.int .i64 b).wf = true := by
  obtain ⟨c0, c1, y0, y1, m, rfl, rfl, rfl, hy0, hy1⟩ := Joins.open_agg2 Tryd.underlying23 (by kernel_rfl) cellsPlace hv h
  obtain ⟨a, e0, rfl, wa⟩ := DataW.trod_int Tryd.underlying3 hy0
  obtain ⟨b, e1, rfl, wb⟩ := DataW.trod_int Tryd.underlying3 hy1
  simp at e0 e1
  subst e0 e1
  exact ⟨a, b, rfl, rfl, rfl, wa, wb⟩
theorem shut_place {a b : Int} (wa : (Lit.int .i64 a).wf = true) (wb : (Lit.int .i64 b).wf = true) :
    DataW.Trod enc Tryd.prog w base spare held 23 (.agg #[.int .i64 a, .int .i64 b]) (.agg [.lit (.int .i64 a), .lit (.int .i64 b)]) [] :=
  Joins.shut_agg2 (y0 := (.lit (.int .i64 a), [])) (y1 := (.lit (.int .i64 b), [])) Tryd.underlying23 (by kernel_rfl) cellsPlace ⟨1, by simp [DataW.trod, Tryd.underlying3, wa]⟩ ⟨1, by simp [DataW.trod, Tryd.underlying3, wb]⟩
/-- A place's two cells, read. -/
theorem trod_place {fuel : Nat} {cs : List Value} {x : DataW H × List MemPlace} (hl : cs.length = 2) (h : DataW.trod enc Tryd.prog w base spare held fuel 23 cs = some x) :
    ∃ a b : Int, cs = [.int .i64 a, .int .i64 b] ∧ x = (.agg [.lit (.int .i64 a), .lit (.int .i64 b)], []) ∧ (Lit.int .i64 a).wf = true ∧ (Lit.int .i64 b).wf = true := by
  match cs, hl with
  | [c0, c1], _ =>
    obtain ⟨y0, y1, n, rfl, _, hy0, hy1⟩ := trod_struct2 Tryd.underlying23 h
    simp only [cellsInt] at hy0 hy1
    obtain ⟨a, e0, rfl, wa⟩ := DataW.trod_int Tryd.underlying3 hy0
    obtain ⟨b, e1, rfl, wb⟩ := DataW.trod_int Tryd.underlying3 hy1
    simp at e0 e1
    subst e0 e1
    exact ⟨a, b, rfl, rfl, wa, wb⟩
theorem trod_place_mk {a b : Int} (m : Nat) (wa : (Lit.int .i64 a).wf = true) (wb : (Lit.int .i64 b).wf = true) :
    DataW.trod enc Tryd.prog w base spare held (m + 1 + 1) 23 [.int .i64 a, .int .i64 b] = some (.agg [.lit (.int .i64 a), .lit (.int .i64 b)], []) :=
  trod_struct2_mk (y0 := (.lit (.int .i64 a), [])) (y1 := (.lit (.int .i64 b), [])) Tryd.underlying23 (by rw [cellsPlace]; rfl)
    (by simpa [cellsInt] using trod_int_mk (n := a) m Tryd.underlying3 wa) (by simpa [cellsInt] using trod_int_mk (n := b) m Tryd.underlying3 wb)
/-- A RANGE, OPENED. -/
theorem open_range {r : Reach} {b0 : Nat} {v : Value} {d : DataW H} {p : List MemPlace} (hv : Value.okWide Tryd.prog w r b0 37 v) (h : DataW.Trod enc Tryd.prog w base spare held 37 v d p) :
    ∃ a b c e : Int, v = .agg #[.int .i64 a, .int .i64 b, .int .i64 c, .int .i64 e] ∧ d = .agg [.agg [.lit (.int .i64 a), .lit (.int .i64 b)], .agg [.lit (.int .i64 c), .lit (.int .i64 e)]] ∧ p = [] ∧
      (Lit.int .i64 a).wf = true ∧ (Lit.int .i64 b).wf = true ∧ (Lit.int .i64 c).wf = true ∧ (Lit.int .i64 e).wf = true := by
  obtain ⟨cs, rfl, hsz⟩ := okWide_struct Tryd.underlying37 hv
  obtain ⟨c0, c1, c2, c3, rfl⟩ := Joins.array4 (hsz.trans cellsRange)
  obtain ⟨fuel, hf⟩ := h
  obtain ⟨y0, y1, n, hx, _, hy0, hy1⟩ := trod_struct2 Tryd.underlying37 hf
  simp only [cellsPlace] at hy0 hy1
  obtain ⟨a, b, e0, rfl, wa, wb⟩ := trod_place rfl hy0
  obtain ⟨c, e, e1, rfl, wc, we⟩ := trod_place rfl hy1
  simp [Value.cells] at e0 e1
  obtain ⟨rfl, rfl⟩ := e0
  obtain ⟨rfl, rfl⟩ := e1
  simp only [Prod.mk.injEq] at hx
  exact ⟨a, b, c, e, rfl, hx.1, hx.2, wa, wb, wc, we⟩
theorem shut_range {a b c e : Int} (wa : (Lit.int .i64 a).wf = true) (wb : (Lit.int .i64 b).wf = true) (wc : (Lit.int .i64 c).wf = true) (we : (Lit.int .i64 e).wf = true) :
    DataW.Trod enc Tryd.prog w base spare held 37 (.agg #[.int .i64 a, .int .i64 b, .int .i64 c, .int .i64 e]) (.agg [.agg [.lit (.int .i64 a), .lit (.int .i64 b)], .agg [.lit (.int .i64 c), .lit (.int .i64 e)]]) [] :=
  ⟨_, trod_struct2_mk (cs := [.int .i64 a, .int .i64 b, .int .i64 c, .int .i64 e]) (y0 := (.agg [.lit (.int .i64 a), .lit (.int .i64 b)], [])) (y1 := (.agg [.lit (.int .i64 c), .lit (.int .i64 e)], [])) Tryd.underlying37 (by rw [cellsRange]; rfl)
    (by simpa [cellsPlace, Value.cells] using trod_place_mk 0 wa wb) (by simpa [cellsPlace, Value.cells] using trod_place_mk 0 wc we)⟩
end
/-- the integers of a listed table -/
def valsOf : DataW Unit → List Value
  | .agg ds => ds.map fun
    | .lit (.int k n) => .int k n
    | _ => .nilIface
  | _ => []
/-- A start that fits: the settled world, the three variables as their initialisers lay them. -/
noncomputable def laidWorld (os : Os) : World :=
  let w0 := World.holding Tryd.prog os ⟨#[], #[], []⟩
  let put (h : Array Obj) (g : Nat) (cs : Array Value) : Array Obj := h.modify g fun
    | .cells _ t frozen => .cells cs t frozen
    | o => o
  let h2 := put w0.heap 0 (valsOf Rows.laid_internal_strconv_uint64pow10).toArray
  let h3 := put h2 1 (valsOf Rows.laid_math_bits_deBruijn32tab).toArray
  let h4 := put h3 2 (valsOf Rows.laid_math_bits_deBruijn64tab).toArray
  { w0 with heap := h4 }
theorem laid_met (os : Os) (args : Array Value) : laidMet Tryd.prog Rows.placeTellsRow.laid ((laidWorld os).forCall (fun _ _ => 0) ⟨#[], args, []⟩).memory :=
  laidMet_of_run' 8 (by kernel_rfl) (by kernel_rfl)
end Go.Proofs.YtmophlfpoehopaaDoor
