/-
  A state's bytes, or the error: the program's and the document's are the same.
-/
import Derived.Test.YthffglacokfkgaaL
namespace Go.Proofs.Ythffglacokfkgaa
open Go.RowKit
open M (ofL ofL_size ofL_of)
set_option linter.unusedVariables false

set_option maxRecDepth 100000 in
set_option maxHeartbeats 400000 in
theorem packs_walk (b : ByteArray) (g : Int) (w : World) (hb : b.size ≤ maxLen) :
    Calls Try.prog 3 #[.string b, .int .i64 g] w fun e w' => e = .returned (.bool true) ∧ Below w.heap.size w w' := by
  have c1 := pack_any b g w hb
  have c2 := fun W => refPack_any b g W hb
  generalize ptext b g = T at *
  generalize pcode b g = c at *
  go_enter Try.func3, Try.ntmps3
  go_wp2_with fail
  refine c1.mono ?_
  rintro e w1 ⟨rfl, b1⟩
  have HB1 := Hid_of b1
  clear c1 b1
  go_wp2_with fail
  refine (c2 _).mono ?_
  rintro e w2 ⟨rfl, b2⟩
  have HB2 := Hid_of (bel_up HB1.out b2 (Nat.le_refl _))
  clear c2 b2 HB1
  go_wp2_with fail
  refine (room_any _).mono ?_
  rintro e w3 ⟨rfl, rfl⟩
  go_wp2_with fail
  refine (awake_any _).mono ?_
  rintro e w4 ⟨rfl, b4⟩
  have HB4 := Hid_of (bel_up HB2.out b4 (Nat.le_refl _))
  clear b4 HB2
  go_wp2
  go_ret
  exact ⟨rfl, HB4.out⟩
end Go.Proofs.Ythffglacokfkgaa
