/-
  The call that opens a sealed text, and the document's answer: the same for every text that is not too long.
-/
import Derived.Test.YticjilpomdahbaaSC
namespace Go.Proofs.Yticjilpomdahbaa
open Go.RowKit
open M (ofL ofL_size ofL_of)
set_option linter.unusedVariables false

theorem text_eq {a b : ByteArray} (h : a = b) : (a.toList == b.toList) = true := by rw [h]; simp
theorem text_ne {a b : ByteArray} (h : a ≠ b) : (a.toList == b.toList) = false := by
  rw [beq_eq_false_iff_ne]
  intro h1
  rw [ByteArray.toList_eq, ByteArray.toList_eq] at h1
  exact h (ByteArray.ext (Array.toList_inj.1 h1))
theorem cut_list (s : ByteArray) (z : Nat) : (s.extract 0 z).data.toList = s.data.toList.take z := by simp

end Go.Proofs.Yticjilpomdahbaa
