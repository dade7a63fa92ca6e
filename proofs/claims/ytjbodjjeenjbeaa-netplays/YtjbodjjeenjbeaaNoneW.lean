/-
  The law of a net that is none, walked.
-/
import Derived.Test.YtjbodjjeenjbeaaNP
namespace Go.Proofs.Ytjbodjjeenjbeaa
open Go.RowKit
set_option linter.unusedVariables false
open Nt (Pk)

theorem row9 {w : World} {k : Nat} {v0 v1 v2 v3 v4 v5 v6 v7 v8 : Value} {t : TypeId} (h : w.heap[k]? = some (.cells #[v0, v1, v2, v3, v4, v5, v6, v7, v8] t (0, 0))) :
    (w.cell? ⟨k, 0, none⟩ = some v0 ∧ w.cell? ⟨k, 1, none⟩ = some v1 ∧ w.cell? ⟨k, 2, none⟩ = some v2 ∧ w.cell? ⟨k, 3, none⟩ = some v3) ∧ (w.cell? ⟨k, 4, none⟩ = some v4 ∧ w.cell? ⟨k, 5, none⟩ = some v5 ∧ w.cell? ⟨k, 6, none⟩ = some v6 ∧ w.cell? ⟨k, 7, none⟩ = some v7 ∧ w.cell? ⟨k, 8, none⟩ = some v8) :=
  ⟨⟨by rw [cell_of_row w k 0 _ _ _ h]; rfl, by rw [cell_of_row w k 1 _ _ _ h]; rfl, by rw [cell_of_row w k 2 _ _ _ h]; rfl, by rw [cell_of_row w k 3 _ _ _ h]; rfl⟩, by rw [cell_of_row w k 4 _ _ _ h]; rfl, by rw [cell_of_row w k 5 _ _ _ h]; rfl, by rw [cell_of_row w k 6 _ _ _ h]; rfl, by rw [cell_of_row w k 7 _ _ _ h]; rfl, by rw [cell_of_row w k 8 _ _ _ h]; rfl⟩
set_option maxRecDepth 100000 in
set_option maxHeartbeats 1000000 in
theorem none_walk (k a b c mk mf mt mi : Int) (mb : List UInt8) (w : World) (hb : mb.length ≤ maxLen) :
    Calls Try.prog 6 #[.agg #[.int .i64 k, .int .i64 a, .int .i64 b, .int .i64 c, .int .i64 mk, .int .i64 mf, .int .i64 mt, .int .i64 mi, .string (ofL mb)]] w fun e w' => e = .returned (.bool true) ∧ Below w.heap.size w w' := by
  have e1 := eq33 0 0 0 0 ⟨#[]⟩
  generalize ofL mb = sb at *
  obtain ⟨W1, HW1⟩ : ∃ W1, Hid (w.alloc (.cells #[.int .i64 k, .int .i64 a, .int .i64 b, .int .i64 c, .int .i64 mk, .int .i64 mf, .int .i64 mt, .int .i64 mi, .string sb] 35) = W1) := ⟨_, rfl⟩
  have hB1 : Below w.heap.size w W1 := by rw [← HW1.out]; exact bel1 w _
  have hr1 : W1.heap[w.heap.size]? = some (.cells #[.int .i64 k, .int .i64 a, .int .i64 b, .int .i64 c, .int .i64 mk, .int .i64 mf, .int .i64 mt, .int .i64 mi, .string sb] 35 (0, 0)) := by rw [← HW1.out]; exact heap_alloc_last w _
  go_enter Try.func6, Try.ntmps6
  go_upto_region 1 with fail
  rw [HW1.out]
  clear HW1
  obtain ⟨⟨d0, d1, d2, d3⟩, d4, d5, d6, d7, d8⟩ := row9 hr1
  go_wp2_with fail
  refine (deliver_nil _ _).mono ?_
  rintro e w2 ⟨rfl, hb2⟩
  obtain ⟨W3, HW3⟩ : ∃ W3, Hid (w2.alloc (.cells #[.int .i64 0, .int .i64 0, .int .i64 0, .int .i64 0, .string ⟨#[]⟩] 33) = W3) := ⟨_, rfl⟩
  have hb3 : Below w2.heap.size w2 W3 := by rw [← HW3.out]; exact bel1 w2 _
  have hz3 : W3.heap[w2.heap.size]? = some (.cells #[.int .i64 0, .int .i64 0, .int .i64 0, .int .i64 0, .string ⟨#[]⟩] 33 (0, 0)) := by rw [← HW3.out]; exact heap_alloc_last w2 _
  have hr3 := bel_row (bel_row hr1 hb2) hb3
  have hB3 := bel_up (bel_up hB1 hb2 (Nat.le_refl _)) hb3 (Nat.le_refl _)
  clear hb2 hb3 hB1 hr1 d0 d1 d2 d3 d4 d5 d6 d7 d8
  go_upto_region 3 with fail
  rw [HW3.out]
  clear HW3
  generalize w2.heap.size = y at *
  obtain ⟨⟨d0, d1, d2, d3⟩, d4, d5, d6, d7, d8⟩ := row9 hr3
  go_wp2_with fail
  refine (send_nil _ _ _ _ _ _).mono ?_
  rintro e w4 ⟨rfl, hb4⟩
  have hr4 := bel_row hr3 hb4
  have hB4 := bel_up hB3 hb4 (Nat.le_refl _)
  obtain ⟨⟨z0, z1, z2, z3, z4⟩, _⟩ := row5 (bel_row hz3 hb4)
  clear hb4 hB3 hr3 hz3 d0 d1 d2 d3 d4 d5 d6 d7 d8
  obtain ⟨⟨d0, d1, d2, d3⟩, d4, d5, d6, d7, d8⟩ := row9 hr4
  clear d4 d5 d6 d7 d8
  go_wp2_with fail
  refine (drop_nil _ _).mono ?_
  rintro e w5 ⟨rfl, hb5⟩
  have hr5 := bel_row hr4 hb5
  have hB5 := bel_up hB4 hb5 (Nat.le_refl _)
  clear hb5 hB4 hr4 d0 d1 d2 d3 z0 z1 z2 z3 z4 e1
  obtain ⟨⟨d0, d1, d2, d3⟩, _⟩ := row9 hr5
  go_wp2_with fail
  refine (double_nil _ _).mono ?_
  rintro e w6 ⟨rfl, hb6⟩
  have hr6 := bel_row hr5 hb6
  have hB6 := bel_up hB5 hb6 (Nat.le_refl _)
  clear hb6 hB5 hr5 d0 d1 d2 d3
  obtain ⟨⟨d0, d1, d2, d3⟩, _⟩ := row9 hr6
  go_wp2_with fail
  refine (spoil_nil _ _ _ _).mono ?_
  rintro e w7 ⟨rfl, hb7⟩
  have hr7 := bel_row hr6 hb7
  have hB7 := bel_up hB6 hb7 (Nat.le_refl _)
  clear hb7 hB6 hr6 d0 d1 d2 d3
  obtain ⟨⟨d0, d1, d2, d3⟩, _⟩ := row9 hr7
  go_wp2_with fail
  refine (cut_nil _ _ _ _).mono ?_
  rintro e w8 ⟨rfl, rfl⟩
  clear d0 d1 d2 d3 hr7
  go_wp2_with fail
  refine (waiting_nil _).mono ?_
  rintro e w8 ⟨rfl, rfl⟩
  go_wp2_with fail
  refine (awake_any _).mono ?_
  rintro e w9 ⟨rfl, hb9⟩
  have HB := Hid_of (bel_up hB7 hb9 (Nat.le_refl _))
  clear hb9 hB7
  go_wp2
  go_ret
  exact ⟨rfl, HB.out⟩
end Go.Proofs.Ytjbodjjeenjbeaa
