/- What a text's tokens are told by of the library's variables: strconv's two errors. -/
import Derived.Test.YtjfmmnebhmlkeaaDoorMem
import Derived.Lib.AtoiErrMem
namespace Go.Proofs.YtjfmmnebhmlkeaaDoor
open Go.RowKit

theorem gRng : Tryd.prog.globalNamed "strconv.ErrRange" = some 2 := by kernel_rfl
theorem gSyn : Tryd.prog.globalNamed "strconv.ErrSyntax" = some 1 := by kernel_rfl
/-- What Scan reads of the library's variables: strconv's two errors. -/
structure EnvL (w : World) : Prop where
  rng : ∃ tp p, w.var? Tryd.prog "strconv.ErrRange" = some #[.iface tp p]
  syn : ∃ tp p, w.var? Tryd.prog "strconv.ErrSyntax" = some #[.iface tp p]
theorem var_lt {w : World} {name : String} {g : Nat} {v : Value} {r : List Value} (hg : Tryd.prog.globalNamed name = some g) (hv : w.var? Tryd.prog name = some (v :: r).toArray) : g < w.heap.size := by
  have h0 := World.var?_cell hg hv 0
  exact Lib.lt_of_cell (a := ⟨g, 0, none⟩) (v := v) (by simpa using h0)
theorem EnvL.below {w w' : World} (h : EnvL w) (hb : Below w.heap.size w w') : EnvL w' := by
  obtain ⟨⟨t1, p1, h1⟩, ⟨t2, p2, h2⟩⟩ := h
  exact ⟨⟨t1, p1, var?_below hb gRng (var_lt (r := []) gRng h1) h1⟩, ⟨t2, p2, var?_below hb gSyn (var_lt (r := []) gSyn h2) h2⟩⟩
end Go.Proofs.YtjfmmnebhmlkeaaDoor
