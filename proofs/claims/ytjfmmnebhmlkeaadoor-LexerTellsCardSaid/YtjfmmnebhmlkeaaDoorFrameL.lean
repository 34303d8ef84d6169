/- What the rows' listed variables give a walk, and one start that holds them. -/
import Derived.Test.YtjfmmnebhmlkeaaDoorRows
import Derived.Test.YtjfmmnebhmlkeaaDoorEnvS
import Derived.WalkKit
import Derived.ProofKit
import Derived.OpenShut
import Derived.Lib.SmallJoins
import Derived.Deep.DeepHandedRow
import Derived.Lib.LaidTab
import Derived.Stop.LaidErr
import Derived.LaidLaws
import Derived.Lib.LaidIn
namespace Go.Proofs.YtjfmmnebhmlkeaaDoor
open Go.ChangeShapes Go.WideShapes Go.ChangeAt Go.RowKit

theorem own : ownKnob Tryd.prog.godebug = none := by kernel_rfl
theorem ySyn : (Tryd.prog.globals[1]?).map (·.type) = some 56 := by kernel_rfl
theorem yRng : (Tryd.prog.globals[2]?).map (·.type) = some 56 := by kernel_rfl
theorem cells68 : Tryd.prog.cellsOf 90 = 1 := by kernel_rfl
theorem cells9 : Tryd.prog.cellsOf 9 = 1 := by kernel_rfl
theorem star : "*" ++ "errors.errorString" = "*errors.errorString" := by decide
theorem row66 (u : TypeId) (h : Tryd.prog.typeName? 3 u = some "*errors.errorString") : u = 88 :=
  typeName_ptr_named (nm := "errors.errorString") (by rw [star]; kernel_rfl) (by kernel_rfl) (by decide) u (by rw [star]; exact h)

theorem env_of {w : World} (h : laidMet Tryd.prog Rows.lexerTellsRow.laid w) : EnvL w := by
  have h3 := h.tail.tail
  have h4 := h3.tail
  have h5 := h4.tail
  refine ⟨?_, ?_⟩
  · obtain ⟨a, s, hv, _⟩ := laid_sentinel h4 gRng yRng Tryd.underlying56 row66 Tryd.underlying88 Tryd.underlying90 rfl rfl Tryd.underlying9 cells68 cells9
    exact ⟨_, _, hv⟩
  · obtain ⟨a, s, hv, _⟩ := laid_sentinel h5 gSyn ySyn Tryd.underlying56 row66 Tryd.underlying88 Tryd.underlying90 rfl rfl Tryd.underlying9 cells68 cells9
    exact ⟨_, _, hv⟩

/-- the integers of a listed table -/
def valsOf : DataW Unit → List Value
  | .agg ds => ds.map fun
    | .lit (.int k n) => .int k n
    | _ => .nilIface
  | _ => []
abbrev synS : ByteArray := { data := #[105, 110, 118, 97, 108, 105, 100, 32, 115, 121, 110, 116, 97, 120] }
abbrev rngS : ByteArray := { data := #[118, 97, 108, 117, 101, 32, 111, 117, 116, 32, 111, 102, 32, 114, 97, 110, 103, 101] }
/-- So many blocks has the settled world. -/
noncomputable def low : Nat := (World.holding Tryd.prog default ⟨#[], #[], []⟩).heap.size
/-- A start that fits: the settled world, two blocks more, the five variables as their initialisers lay them. -/
noncomputable def laidWorld (os : Os) : World :=
  let w0 := World.holding Tryd.prog os ⟨#[.cells #[.string synS] 90, .cells #[.string rngS] 90], #[], []⟩
  let put (h : Array Obj) (g : Nat) (cs : Array Value) : Array Obj := h.modify g fun
    | .cells _ t frozen => .cells cs t frozen
    | o => o
  let h0 := put w0.heap 1 #[.iface 88 (.pointer (some ⟨low, 0, none⟩))]
  let h1 := put h0 2 #[.iface 88 (.pointer (some ⟨low + 1, 0, none⟩))]
  let h2 := put h1 3 (valsOf Rows.laid_internal_strconv_uint64pow10).toArray
  let h3 := put h2 4 (valsOf Rows.laid_math_bits_deBruijn32tab).toArray
  let h4 := put h3 5 (valsOf Rows.laid_math_bits_deBruijn64tab).toArray
  { w0 with heap := h4 }
theorem laid_met (os : Os) (args : Array Value) : laidMet Tryd.prog Rows.lexerTellsRow.laid ((laidWorld os).forCall (fun _ _ => 0) ⟨#[], args, []⟩).memory :=
  laidMet_of_run' 8 (by kernel_rfl) (by kernel_rfl)
end Go.Proofs.YtjfmmnebhmlkeaaDoor
