/- Texts joined: GqB. -/
import Derived.Test.YtbppkflgokfjhaaGk09
import Derived.Test.YtbppkflgokfjhaaGk10
import Derived.Test.YtbppkflgokfjhaaGk11
set_option linter.all false
namespace Go.Proofs.Ytbppkflgokfjhaa
open Go.RowKit Go.Maps Go.Sort
def EVG (_ : World) : Prop := True
set_option maxHeartbeats 4000000 in
set_option maxRecDepth 10000 in
theorem pnodes_nil (w : World) : Calls Try.prog 11 #[.pointer none] w fun e w' => GRow w [] e w' := by
  go_enter Try.func11, Try.ntmps11
  go_wp2_with fail
  go_ret
  exact ⟨none, 0, rfl, Nat.le_refl _, .inl rfl, Below.refl _ _⟩
set_option maxHeartbeats 4000000 in
set_option maxRecDepth 10000 in
theorem phang_nil (w : World) (O : Option Addr) (n co : Nat) : Calls Try.prog 17 #[.pointer none, .slice O n co] w fun e w' => GRow w [] e w' := by
  go_enter Try.func17, Try.ntmps17
  go_wp2_with fail
  go_ret
  exact ⟨none, 0, rfl, Nat.le_refl _, .inl rfl, Below.refl _ _⟩
set_option maxHeartbeats 4000000 in
set_option maxRecDepth 10000 in
theorem porder_nil (w : World) : Calls Try.prog 15 #[.pointer none] w fun e w' => GRow w [] e w' := by
  go_enter Try.func15, Try.ntmps15
  go_wp2_with fail
  go_step3
  go_wp2_with fail
  go_ret
  exact ⟨none, 0, rfl, Nat.le_refl _, .inl rfl, Below.refl _ _⟩
set_option maxHeartbeats 4000000 in
set_option maxRecDepth 10000 in
theorem pcyclic_nil (w : World) : Calls Try.prog 13 #[.pointer none] w fun e w' => GRow w [] e w' := by
  have hb1 : Below w.heap.size w (w.alloc (.cells #[.pointer none] 26)) := (Below.refl _ _).alloc (Nat.le_refl _) _
  go_enter Try.func13, Try.ntmps13
  go_wp2_with fail
  go_ret
  exact ⟨none, 0, rfl, Nat.le_refl _, .inl rfl, hb1⟩
theorem graph_does : GD 1024 EVG GP12 where
  up := fun _ _ => trivial
  below := fun h hb => h.below hb
  new := fun w l A ca P _ hl hll hrl => pnew_any w l A ca P hl hll hrl
  nodes := fun w g L _ hP hk _ _ => (pnodes_any w g L hP hk).mono fun _ _ h => h.g
  cyclic := fun w g L _ hP hk _ hL => pcyclic_any w g L hP hk hL
  order := fun w g L _ hP hk _ hL => porder_any w g L hP hk hL
  hang := fun w g L on O co Q _ hP hk _ hL ho hol h64 => phang_any w g L on O co Q hP hk hL ho hol h64
  nodes0 := pnodes_nil
  cyclic0 := pcyclic_nil
  order0 := porder_nil
  hang0 := phang_nil
theorem alive_does : AliveG EVG := graphalive_any graph_does rfl
end Go.Proofs.Ytbppkflgokfjhaa
