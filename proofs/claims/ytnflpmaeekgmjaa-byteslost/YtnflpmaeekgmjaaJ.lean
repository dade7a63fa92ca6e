/-
  The document's own examples, as the statements ask them each time: the call returns true, and nothing that was there is written.
-/
import Derived.Test.YtnflpmaeekgmjaaI
namespace Go.Proofs.Ytnflpmaeekgmjaa
open Go.RowKit
set_option linter.unusedVariables false

theorem ex1 : putOut { data := #[97, 98, 99] } 5 { data := #[120] } = ({ data := #[97, 98, 99, 0, 0, 120] }, 0) := by kernel_rfl
theorem ex2 : padOut { data := #[97] } 3 = ({ data := #[97, 0, 0] }, 0) := by kernel_rfl
theorem ex3 : cutOut { data := #[97, 98, 99] } 2 = ([{ data := #[97, 98] }, { data := #[99, 0] }], 0) := by kernel_rfl
theorem ex4 : putOut { data := #[] } (-1) { data := #[] } = ({ data := #[] }, 1) := by kernel_rfl
theorem ex5 : ofL (sumL [{ data := #[97] }, { data := #[97, 98] }]) = { data := #[0, 98] } := by kernel_rfl
theorem ex6 : M.same [97, 98, 99] [97, 98, 100] = 2 := by kernel_rfl
theorem ex7 : M.zero [0] = true := by kernel_rfl
theorem ex8 : M.zero [97] = false := by kernel_rfl

set_option maxHeartbeats 1000000 in
theorem awake_any (w : World) : Calls Try.prog 9 #[] w fun e w' => e = .returned (.bool true) ∧ Below w.heap.size w w' := by
  go_enter Try.func9, Try.ntmps9
  go_wp2_with fail
  refine (put_any { data := #[97, 98, 99] } 5 { data := #[120] } _ (by decide) (by decide) (by decide)).mono ?_
  rintro e w1 ⟨rfl, hb1⟩
  rw [ex1]
  go_wp2_with fail
  refine (pad_any { data := #[97] } 3 _ (by decide) (by decide)).mono ?_
  rintro e w2 ⟨rfl, hb2⟩
  rw [ex2]
  go_wp2_with fail
  refine (cut_any { data := #[97, 98, 99] } 2 _ (by decide) (by decide)).mono ?_
  rw [ex3]
  rintro e w3 ⟨a3, cap3, rfl, ht3, hb3⟩
  go_wp2_with fail
  refine (put_any { data := #[] } (-1) { data := #[] } _ (by decide) (by decide) (by decide)).mono ?_
  rintro e w4 ⟨rfl, hb4⟩
  rw [ex4]
  have ht4 : Texts (w4.alloc (.cells #[.string { data := #[97, 98] }, .string { data := #[99, 0] }] 9)) a3 [{ data := #[97, 98] }, { data := #[99, 0] }] :=
    (ht3.keep hb4).keep ((Below.refl _ _).alloc (Nat.le_refl _) _)
  have ht5 := texts_two w4 { data := #[97, 98] } { data := #[99, 0] }
  go_wp2_with fail
  refine (texts_any _ _ 2 2 _ _ [{ data := #[97, 98] }, { data := #[99, 0] }] _ rfl rfl (by decide) ht4 ht5).mono ?_
  rintro e w5 ⟨rfl, hb5⟩
  have B5 : Below w.heap.size w w5 := by
    have s1 := hb1.size
    have s2 := hb2.size
    have s3 := hb3.size
    have s4 := hb4.size
    refine ((((hb1.trans (hb2.mono s1)).trans (hb3.mono (by omega))).trans (hb4.mono (by omega))).alloc (by omega) _).trans (hb5.mono ?_)
    simp
    omega
  clear ht3 ht4 ht5 hb1 hb2 hb3 hb4 hb5
  go_wp2_with fail
  refine (xor_any { data := #[97] } { data := #[97, 98] } _ (by decide) (by decide)).mono ?_
  rintro e w6 ⟨rfl, hb6⟩
  rw [ex5]
  go_wp2_with fail
  refine (same_any { data := #[97, 98, 99] } { data := #[97, 98, 100] } _ (by decide) (by decide)).mono ?_
  rintro e w7 ⟨rfl, hb7⟩
  have B7 := (B5.trans (hb6.mono B5.size)).trans (hb7.mono (Nat.le_trans B5.size hb6.size))
  clear B5 hb6 hb7
  simp only [ex6]
  go_wp2_with fail
  refine (zero_any { data := #[0] } _ (by decide)).mono ?_
  rintro e w8 ⟨rfl, rfl⟩
  simp only [ex7]
  go_wp2_with fail
  refine (zero_any { data := #[97] } _ (by decide)).mono ?_
  rintro e w9 ⟨rfl, rfl⟩
  simp only [ex8]
  go_wp2
  go_ret
  exact ⟨rfl, B7⟩

end Go.Proofs.Ytnflpmaeekgmjaa
