/-
  The law AcceptorNone, walked.
-/
import Derived.Test.YtbbadfebajpeaaaAW
namespace Go.Proofs.Ytbbadfebajpeaaa
open Go.RowKit
set_option linter.unusedVariables false
open M (E V)

set_option maxRecDepth 100000 in
set_option maxHeartbeats 1000000 in
theorem none_walk (x : V) (w : World) (hx : x.v.size ≤ maxLen) : Calls Try.prog 6 #[vV x] w fun e w' => e = .returned (.bool true) ∧ Below w.heap.size w w' := by
  obtain ⟨W1, HW1⟩ : ∃ W1, Hid (w.alloc (.cells #[.int .i64 x.s, .int .i64 x.b.i, .int .i64 x.b.t, .string x.v] 33) = W1) := ⟨_, rfl⟩
  have hb1 : Below w.heap.size w W1 := by rw [← HW1.out]; exact bel1 w _
  have hr1 : W1.heap[w.heap.size]? = some (.cells #[.int .i64 x.s, .int .i64 x.b.i, .int .i64 x.b.t, .string x.v] 33 (0, 0)) := by rw [← HW1.out]; exact heap_alloc_last w _
  obtain ⟨⟨z0, z1, z2, z3⟩, _⟩ := row4 hr1
  have HB1 := Hid_of hb1
  have HR1 := Hid_of hr1
  clear hb1 hr1 hx
  go_enter Try.func6, Try.ntmps6
  go_upto_region 2 with fail
  rw [HW1.out]
  clear HW1
  go_wp2_with fail
  refine (promise_nil x.b x.s W1).mono ?_
  rintro e w2 ⟨rfl, hb2⟩
  have HB2 := Hid_of (bel_up HB1.out hb2 (Nat.le_refl _))
  have HR2 := Hid_of (bel_row HR1.out hb2)
  obtain ⟨⟨y0, y1, y2, y3⟩, _⟩ := row4 HR2.out
  clear hb2 HB1 HR1 z0 z1 z2 z3
  go_wp2_with fail
  refine (accept_nil x w2).mono ?_
  rintro e w3 ⟨rfl, hb3⟩
  have HB3 := Hid_of (bel_up HB2.out hb3 (Nat.le_refl _))
  have HR3 := Hid_of (bel_row HR2.out hb3)
  obtain ⟨⟨x0, x1, x2, x3⟩, _⟩ := row4 HR3.out
  clear hb3 HB2 HR2 y0 y1 y2 y3
  go_wp2_with fail
  refine (trim_nil x.s _).mono ?_
  rintro e w4 ⟨rfl, rfl⟩
  go_wp2_with fail
  refine (promised_nil _).mono ?_
  rintro e w5 ⟨rfl, hb5⟩
  have HB5 := Hid_of (bel_up HB3.out hb5 (Nat.le_refl _))
  have hq := eq28 0 0 0 0
  clear hb5 HB3 HR3 x0 x1 x2 x3
  go_wp2_with fail
  refine (votes_nil 0 _).mono ?_
  rintro e w6 ⟨rfl, rfl⟩
  go_wp2_with fail
  refine (base_nil _).mono ?_
  rintro e w7 ⟨rfl, rfl⟩
  go_wp2_with fail
  refine (awake_any _).mono ?_
  rintro e w8 ⟨rfl, hb8⟩
  have HB8 := Hid_of (bel_up HB5.out hb8 (Nat.le_refl _))
  clear hb8
  go_wp2
  go_ret
  exact ⟨rfl, HB8.out⟩
end Go.Proofs.Ytbbadfebajpeaaa
