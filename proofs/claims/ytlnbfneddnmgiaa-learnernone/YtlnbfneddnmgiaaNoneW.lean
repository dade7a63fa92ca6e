/-
  The law LearnerNone, walked.
-/
import Derived.Test.YtlnbfneddnmgiaaDD
namespace Go.Proofs.Ytlnbfneddnmgiaa
open Go.RowKit Go.Maps
set_option linter.unusedVariables false
open M (E V W fup)

theorem row6 {w : World} {k : Nat} {v0 v1 v2 v3 v4 v5 : Value} {t : TypeId} (h : w.heap[k]? = some (.cells #[v0, v1, v2, v3, v4, v5] t (0, 0))) :
    (w.cell? ⟨k, 0, none⟩ = some v0 ∧ w.cell? ⟨k, 1, none⟩ = some v1 ∧ w.cell? ⟨k, 2, none⟩ = some v2 ∧ w.cell? ⟨k, 3, none⟩ = some v3 ∧ w.cell? ⟨k, 4, none⟩ = some v4 ∧ w.cell? ⟨k, 5, none⟩ = some v5) ∧ ∀ j, w.frozen? ⟨k, j, none⟩ = false :=
  ⟨⟨by rw [cell_of_row w k 0 _ _ _ h]; rfl, by rw [cell_of_row w k 1 _ _ _ h]; rfl, by rw [cell_of_row w k 2 _ _ _ h]; rfl, by rw [cell_of_row w k 3 _ _ _ h]; rfl, by rw [cell_of_row w k 4 _ _ _ h]; rfl, by rw [cell_of_row w k 5 _ _ _ h]; rfl⟩, fun j => frozen_of_row w k j _ _ h⟩
set_option maxRecDepth 100000 in
set_option maxHeartbeats 1000000 in
theorem none_walk (d : D) (w : World) (hd : DOk d) : Calls Try.prog 6 #[.agg #[.int .i64 d.k, .int .i64 d.fr, .int .i64 d.v.s, .int .i64 d.v.b.i, .int .i64 d.v.b.t, .string d.v.v]] w fun e w' => e = .returned (.bool true) ∧ Below w.heap.size w w' := by
  obtain ⟨W1, HW1⟩ : ∃ W1, Hid (w.alloc (.cells #[.int .i64 d.k, .int .i64 d.fr, .int .i64 d.v.s, .int .i64 d.v.b.i, .int .i64 d.v.b.t, .string d.v.v] 38) = W1) := ⟨_, Hid_of rfl⟩
  have hb1 : Below w.heap.size w W1 := by rw [← HW1.out]; exact bel1 w _
  have hr1 : W1.heap[w.heap.size]? = some (.cells #[.int .i64 d.k, .int .i64 d.fr, .int .i64 d.v.s, .int .i64 d.v.b.i, .int .i64 d.v.b.t, .string d.v.v] 38 (0, 0)) := by rw [← HW1.out]; exact heap_alloc_last w _
  obtain ⟨⟨z0, z1, z2, z3, z4, z5⟩, _⟩ := row6 hr1
  have HB1 := Hid_of hb1
  have HR1 := Hid_of hr1
  clear hb1 hr1 hd
  go_enter Try.func6, Try.ntmps6
  go_upto_region 2 with fail
  rw [HW1.out]
  clear HW1
  go_wp2_with fail
  refine (told_nil d.v.s W1).mono ?_
  rintro e w2 ⟨rfl, rfl⟩
  go_wp2_with fail
  refine (hear_nil d.fr d.v w2).mono ?_
  rintro e w3 ⟨rfl, hb3⟩
  have HB3 := Hid_of (bel_up HB1.out hb3 (Nat.le_refl _))
  obtain ⟨⟨y0, y1, y2, y3, y4, y5⟩, _⟩ := row6 (bel_row HR1.out hb3)
  clear hb3 z0 z1 z2 z3 z4 z5
  go_wp2_with fail
  refine (tell_nil d.v.s d.v.v w3).mono ?_
  rintro e w4 ⟨rfl, rfl⟩
  go_wp2_with fail
  refine (next_nil w4).mono ?_
  rintro e w5 ⟨rfl, rfl⟩
  go_wp2_with fail
  refine (log_nil 0 w5).mono ?_
  rintro e w6 ⟨rfl, rfl⟩
  go_wp2_with fail
  refine (trim_nil d.v.s w6).mono ?_
  rintro e w7 ⟨rfl, rfl⟩
  go_wp2_with fail
  refine (base_nil w7).mono ?_
  rintro e w8 ⟨rfl, rfl⟩
  go_wp2_with fail
  refine (awake_any w8).mono ?_
  rintro e w9 ⟨rfl, hb9⟩
  have HB9 := Hid_of (bel_up HB3.out hb9 (Nat.le_refl _))
  clear hb9
  go_wp2
  go_ret
  exact ⟨rfl, HB9.out⟩

end Go.Proofs.Ytlnbfneddnmgiaa
