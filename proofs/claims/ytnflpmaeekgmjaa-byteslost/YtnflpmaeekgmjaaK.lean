/-
  Small facts that every row's step of this seat uses.
-/
import Derived.Test.YtnflpmaeekgmjaaJ
import Derived.ProofKit
import Derived.OpenShut
import Derived.ShutString
import Derived.SizedLaws
namespace Go.Proofs.Ytnflpmaeekgmjaa
open Go.ChangeShapes Go.WideShapes Go.ChangeAt Go.RowKit

theorem wf_i64 {a : Int} (h : (Lit.int .i64 a).wf = true) : -9223372036854775808 ≤ a ∧ a ≤ 9223372036854775807 := by
  have := bounds_i64 h
  omega

theorem own : ownKnob Try.prog.godebug = none := by kernel_rfl

end Go.Proofs.Ytnflpmaeekgmjaa
