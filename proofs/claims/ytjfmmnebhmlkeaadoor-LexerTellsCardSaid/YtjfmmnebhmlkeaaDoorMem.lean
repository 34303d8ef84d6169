/- What stands in memory behind a call that only lays new blocks. -/
import Derived.Test.YtjfmmnebhmlkeaaDoorProg
import Derived.Test.YtjfmmnebhmlkeaaDoorRet
import Derived.WalkKit
import Derived.WalkSmall
import Derived.Lib.Hide
import Derived.Lib.AtoiErrMem
import Derived.Deep.CutRange
namespace Go.Proofs.YtjfmmnebhmlkeaaDoor
open Go.RowKit

/-- What stood ahead of a call that only lays new blocks stands behind it. -/
theorem keep_cell {W w1 : World} (hb : Below W.heap.size W w1) {p : Addr} {v : Value} (h : W.cell? p = some v) : w1.cell? p = some v := by
  rw [hb.cell (Lib.lt_of_cell h)]; exact h
theorem keep_frozen {W w1 : World} (hb : Below W.heap.size W w1) {p : Addr} (hp : p.block < W.heap.size) (h : W.frozen? p = false) : w1.frozen? p = false := by
  rw [hb.frozen hp]; exact h

/-- What a range's four cells, or a place's two, read behind a call that only lays new blocks. -/
theorem keep_fresh {W w1 : World} {cs : Array Value} {T : TypeId} (hb : Below (W.alloc (.cells cs T)).heap.size (W.alloc (.cells cs T)) w1) (i : Nat) {v : Value} (h : cs[i]? = some v) : w1.cell? ⟨W.heap.size, i, none⟩ = some v :=
  keep_cell hb (by rw [cell_of_row _ _ i cs T (0, 0) (heap_alloc_new W _)]; exact h)

theorem fresh_frozen {W w1 : World} {cs : Array Value} {T : TypeId} (hb : Below (W.alloc (.cells cs T)).heap.size (W.alloc (.cells cs T)) w1) (i : Nat) : w1.frozen? ⟨W.heap.size, i, none⟩ = false :=
  keep_frozen hb (by simp) (by simp [go_sem])
theorem below_up {W0 W w1 : World} (B : Below W0.heap.size W0 W) (b : Below W.heap.size W w1) : Below W0.heap.size W0 w1 := B.trans (b.mono B.size)
theorem below_alloc {W0 W w1 : World} {o : Obj} (B : Below W0.heap.size W0 W) (b : Below (W.alloc o).heap.size (W.alloc o) w1) : Below W0.heap.size W0 w1 :=
  (B.alloc B.size o).trans (b.mono (by have := B.size; simp; omega))
end Go.Proofs.YtjfmmnebhmlkeaaDoor
