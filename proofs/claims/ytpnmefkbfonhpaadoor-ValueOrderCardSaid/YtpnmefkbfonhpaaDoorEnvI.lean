/- strconv.Itoa's contract, where its table holds what it is laid with. -/
import Derived.Test.YtpnmefkbfonhpaaDoorShelf
import Derived.Test.YtpnmefkbfonhpaaDoorTx
import Derived.Test.YtpnmefkbfonhpaaDoorMem
import Derived.Lib.AtoiErrMem
namespace Go.Proofs.YtpnmefkbfonhpaaDoor
open Go.RowKit

theorem gTab : Tryd.prog.globalNamed "internal/strconv.uint64pow10" = some 3 := by kernel_rfl
/-- What strconv.Itoa reads of the library's variables. -/
structure EnvI (w : World) : Prop where
  tab : Lib.TabIs Tryd.prog w "internal/strconv.uint64pow10" .u64 Lib.pow10Tab
theorem EnvI.below {w w' : World} (h : EnvI w) (hb : Below w.heap.size w w') : EnvI w' := by
  obtain ⟨ht⟩ := h
  have hc := ht.cell gTab 0 (by rw [Lib.pow10Tab_length]; omega)
  exact ⟨var?_below hb gTab (Lib.lt_of_cell hc) ht⟩
theorem grow_below (w : World) (os : Array Obj) : Below w.heap.size w (Sort.grow w os) :=
  ⟨rfl, rfl, rfl, by simp [Sort.grow], fun k hk => by simp [Sort.grow, Array.getElem?_append_left hk]⟩
theorem itoa_any (n : Int) (hn : B64 n) (w : World) (hE : EnvI w) :
    Calls Tryd.prog 61 #[.int .i64 n] w fun e w' => e = .returned (.string ⟨(Lib.itoa n).toArray⟩) ∧ Below w.heap.size w w' :=
  (Any.strconv_Itoa Tryd.laysM171 n hn.1 hn.2 w hE.tab).mono fun _ _ ⟨he, k, os, hw⟩ => ⟨he, hw ▸ (below_drewN (Below.refl _ _) k).trans (grow_below (w.drewN k) os)⟩
end Go.Proofs.YtpnmefkbfonhpaaDoor
