/-
  The document's own example, and a seal there and back, as the statements ask them each time: the call returns true; and small facts that every row's step of this seat uses.
-/
import Derived.Test.YtimnhccfmehdoaaB
import Derived.Test.YtimnhccfmehdoaaD
import Derived.OpenShut
import Derived.ShutString
import Derived.SizedLaws
namespace Go.Proofs.Ytimnhccfmehdoaa
open Go.ChangeShapes Go.WideShapes Go.ChangeAt Go.RowKit
set_option linter.unusedVariables false

theorem ex1 : ofL (M.sealed [97]) = { data := #[97, 67, 190, 183, 232] } := by kernel_rfl
theorem ex2 : openOut { data := #[97, 67, 190, 183, 232] } = ({ data := #[97] }, 0) := by kernel_rfl
theorem ex3 : openOut { data := #[97, 98, 99] } = ({ data := #[] }, 2) := by kernel_rfl
theorem ex4 : openOut { data := #[97, 98, 99, 100] } = ({ data := #[] }, 4) := by kernel_rfl
theorem ex5 : M.sum [49, 50, 51, 52, 53] = 3421846044#32 := by kernel_rfl
theorem ex6 : M.sum [54, 55, 56, 57] = 2646261639#32 := by kernel_rfl
theorem ex7 : join 3421846044#32 2646261639#32 4 = 3421780262#32 := by kernel_rfl
theorem ex8 : M.sum [49, 50, 51, 52, 53, 54, 55, 56, 57] = 3421780262#32 := by kernel_rfl

theorem join4_any (w : World) : Calls Try.prog 18 #[.int .u32 3421846044, .int .u32 2646261639, .int .i64 4] w fun e w' => e = .returned (.tuple #[.int .u32 3421780262, .int .i64 0]) ∧ w' = w := by
  have h := join_any 3421846044#32 2646261639#32 4 (by decide) w
  rw [ex7] at h
  exact h

set_option maxHeartbeats 1000000 in
theorem awake_any (w : World) : Calls Try.prog 9 #[] w fun e w' => e = .returned (.bool true) ∧ Below w.heap.size w w' := by
  go_enter Try.func9, Try.ntmps9
  go_wp2_with fail
  refine (seal_any { data := #[97] } _ (by decide)).mono ?_
  rintro e w1 ⟨rfl, hb1⟩
  rw [ex1]
  go_wp2_with fail
  refine (open_any { data := #[97, 67, 190, 183, 232] } _ (by decide)).mono ?_
  rintro e w2 ⟨rfl, hb2⟩
  rw [ex2]
  go_wp2_with fail
  refine (open_any { data := #[97, 98, 99] } _ (by decide)).mono ?_
  rintro e w3 ⟨rfl, hb3⟩
  rw [ex3]
  go_wp2_with fail
  refine (open_any { data := #[97, 98, 99, 100] } _ (by decide)).mono ?_
  rintro e w4 ⟨rfl, hb4⟩
  rw [ex4]
  have B4 : Below w.heap.size w w4 := by
    have s1 := hb1.size
    have s2 := hb2.size
    have s3 := hb3.size
    exact ((hb1.trans (hb2.mono s1)).trans (hb3.mono (by omega))).trans (hb4.mono (by omega))
  clear hb1 hb2 hb3 hb4
  go_wp2_with fail
  refine (sum_any { data := #[49, 50, 51, 52, 53] } _ (by decide)).mono ?_
  rintro e w5 ⟨rfl, rfl⟩
  simp only [ex5]
  go_wp2_with fail
  refine (sum_any { data := #[54, 55, 56, 57] } _ (by decide)).mono ?_
  rintro e w6 ⟨rfl, rfl⟩
  simp only [ex6]
  go_wp2_with fail
  refine (join4_any _).mono ?_
  rintro e w7 ⟨rfl, rfl⟩
  go_wp2_with fail
  refine (sum_any { data := #[49, 50, 51, 52, 53, 54, 55, 56, 57] } _ (by decide)).mono ?_
  rintro e w8 ⟨rfl, rfl⟩
  simp only [ex8]
  go_wp2
  go_ret
  exact ⟨rfl, B4⟩

theorem wf_i64 {a : Int} (h : (Lit.int .i64 a).wf = true) : -9223372036854775808 ≤ a ∧ a ≤ 9223372036854775807 := by
  have := bounds_i64 h
  omega
theorem wf_u32 {a : Int} (h : (Lit.int .u32 a).wf = true) : ∃ x : BitVec 32, (x.toNat : Int) = a := by
  have h1 : 0 ≤ a ∧ a ≤ 4294967295 := by
    simp [Lit.wf, IntKind.min, IntKind.max, IntKind.bits, IntKind.signed] at h
    omega
  refine ⟨BitVec.ofNat 32 a.toNat, ?_⟩
  rw [BitVec.toNat_ofNat]
  omega

theorem own : ownKnob Try.prog.godebug = none := by kernel_rfl
end Go.Proofs.Ytimnhccfmehdoaa
