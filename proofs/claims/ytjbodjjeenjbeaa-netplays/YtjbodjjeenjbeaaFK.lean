/-
  Messages compared; the chapter's example.
-/
import Derived.Test.YtjbodjjeenjbeaaFJ
import Derived.Laws.StructEq
namespace Go.Proofs.Ytjbodjjeenjbeaa
open Go.RowKit
set_option linter.unusedVariables false

set_option maxHeartbeats 400000 in
theorem eq33 (k f t i : Int) (b : ByteArray) (w : World) : (binOp .eql 33 (.agg #[.int .i64 k, .int .i64 f, .int .i64 t, .int .i64 i, .string b]) (.agg #[.int .i64 k, .int .i64 f, .int .i64 t, .int .i64 i, .string b])).run Try.prog w = .ok (.bool true) w := by
  have u3 := Try.underlying3
  have u9 := Try.underlying9
  have a3 := Try.isAgg3
  have a9 := Try.isAgg9
  have z3 := Try.sizeOf3
  have z9 := Try.sizeOf9
  have hS : Try.prog.underlying 33 = some (.struct (Try.prog.fieldsOf 33)) := by kernel_rfl
  have hp : Try.prog.stoodInHeld 33 = false := by kernel_rfl
  rw [run_eql_struct, show (10000 : Nat) = 9999 + 1 from rfl, run_equalIn_agg w 9999 33 _ _ hS hp]
  simp only [Program.fieldsOf, Try.underlying33]
  go_simp
set_option maxHeartbeats 400000 in
theorem ne33 (k f t i : Int) (b : ByteArray) (w : World) : (binOp .neq 33 (.agg #[.int .i64 k, .int .i64 f, .int .i64 t, .int .i64 i, .string b]) (.agg #[.int .i64 k, .int .i64 f, .int .i64 t, .int .i64 i, .string b])).run Try.prog w = .ok (.bool false) w := by
  have u3 := Try.underlying3
  have u9 := Try.underlying9
  have a3 := Try.isAgg3
  have a9 := Try.isAgg9
  have z3 := Try.sizeOf3
  have z9 := Try.sizeOf9
  have hS : Try.prog.underlying 33 = some (.struct (Try.prog.fieldsOf 33)) := by kernel_rfl
  have hp : Try.prog.stoodInHeld 33 = false := by kernel_rfl
  rw [run_neq_struct, show (10000 : Nat) = 9999 + 1 from rfl, run_equalIn_agg w 9999 33 _ _ hS hp]
  simp only [Program.fieldsOf, Try.underlying33]
  go_simp
theorem own : ownKnob Try.prog.godebug = none := by kernel_rfl
end Go.Proofs.Ytjbodjjeenjbeaa
