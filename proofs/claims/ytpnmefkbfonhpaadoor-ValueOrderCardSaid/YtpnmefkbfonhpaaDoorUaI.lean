/- Values compared. -/
import Derived.Test.YtpnmefkbfonhpaaDoorUaH
namespace Go.Proofs.YtpnmefkbfonhpaaDoor
open Go.RowKit

theorem valGuard : Tryd.prog.eqGuardType Tryd.prog.depth 24 = false := by kernel_rfl
theorem valStood : Tryd.prog.stoodInHeld 24 = false := by kernel_rfl
theorem valStruct : Tryd.prog.underlying 24 = some (.struct (Tryd.prog.fieldsOf 24)) := by kernel_rfl
theorem guard_val (op : BinOp) (X Y : Operand) (xs ys : Array Value) (W : World) : (eqGuard op 24 X Y (.agg xs) (.agg ys)).run Tryd.prog W = .ok () W := run_eqGuard_agg W op 24 X Y xs ys valGuard
theorem neq_val (x y p q : Int) (W : World) : (binOp .neq 24 (.agg #[.int .i64 x, .int .i64 y]) (.agg #[.int .i64 p, .int .i64 q])).run Tryd.prog W = .ok (.bool (!(x == p && y == q))) W := by
  rw [run_neq_struct, run_equalIn_agg W 9999 24 _ _ valStruct valStood]
  by_cases h1 : x = p <;> by_cases h2 : y = q <;> simp [go_sem, h1, h2]
theorem eql_val (x y p q : Int) (W : World) : (binOp .eql 24 (.agg #[.int .i64 x, .int .i64 y]) (.agg #[.int .i64 p, .int .i64 q])).run Tryd.prog W = .ok (.bool (x == p && y == q)) W := by
  rw [run_eql_struct, run_equalIn_agg W 9999 24 _ _ valStruct valStood]
  by_cases h1 : x = p <;> by_cases h2 : y = q <;> simp [go_sem, h1, h2]
theorem neq_vself (x y : Int) (W : World) : (binOp .neq 24 (.agg #[.int .i64 x, .int .i64 y]) (.agg #[.int .i64 x, .int .i64 y])).run Tryd.prog W = .ok (.bool false) W := by
  rw [neq_val]; simp
theorem eql_vself (x y : Int) (W : World) : (binOp .eql 24 (.agg #[.int .i64 x, .int .i64 y]) (.agg #[.int .i64 x, .int .i64 y])).run Tryd.prog W = .ok (.bool true) W := by
  rw [eql_val]; simp

end Go.Proofs.YtpnmefkbfonhpaaDoor
