/-
  The law ProposerNone, walked.
-/
import Derived.Test.YtpolmfgklgggcaaAW
import Derived.Test.YtpolmfgklgggcaaDD
namespace Go.Proofs.Ytpolmfgklgggcaa
open Go.RowKit Go.Maps
set_option linter.unusedVariables false
open M (E V fup)

theorem row8 {w : World} {k : Nat} {v0 v1 v2 v3 v4 v5 v6 v7 : Value} {t : TypeId} (h : w.heap[k]? = some (.cells #[v0, v1, v2, v3, v4, v5, v6, v7] t (0, 0))) :
    (w.cell? ⟨k, 0, none⟩ = some v0 ∧ w.cell? ⟨k, 1, none⟩ = some v1 ∧ w.cell? ⟨k, 2, none⟩ = some v2 ∧ w.cell? ⟨k, 3, none⟩ = some v3 ∧ w.cell? ⟨k, 4, none⟩ = some v4 ∧ w.cell? ⟨k, 5, none⟩ = some v5 ∧ w.cell? ⟨k, 6, none⟩ = some v6 ∧ w.cell? ⟨k, 7, none⟩ = some v7) ∧ ∀ j, w.frozen? ⟨k, j, none⟩ = false :=
  ⟨⟨by rw [cell_of_row w k 0 _ _ _ h]; rfl, by rw [cell_of_row w k 1 _ _ _ h]; rfl, by rw [cell_of_row w k 2 _ _ _ h]; rfl, by rw [cell_of_row w k 3 _ _ _ h]; rfl, by rw [cell_of_row w k 4 _ _ _ h]; rfl, by rw [cell_of_row w k 5 _ _ _ h]; rfl, by rw [cell_of_row w k 6 _ _ _ h]; rfl, by rw [cell_of_row w k 7 _ _ _ h]; rfl⟩, fun j => frozen_of_row w k j _ _ h⟩
set_option maxRecDepth 100000 in
set_option maxHeartbeats 1000000 in
theorem none_walk (d : D) (w : World) (hd : DOk w d) : Calls Try.prog 6 #[.agg #[.int .i64 d.k, .int .i64 d.fr, .int .i64 d.v.s, .int .i64 d.v.b.i, .int .i64 d.v.b.t, .string d.v.v, .slice d.a d.l.length d.c, .bool d.o]] w fun e w' => e = .returned (.bool true) ∧ Below w.heap.size w w' := by
  obtain ⟨W1, HW1⟩ : ∃ W1, Hid (w.alloc (.cells #[.int .i64 d.k, .int .i64 d.fr, .int .i64 d.v.s, .int .i64 d.v.b.i, .int .i64 d.v.b.t, .string d.v.v, .slice d.a d.l.length d.c, .bool d.o] 38) = W1) := ⟨_, Hid_of rfl⟩
  have hb1 : Below w.heap.size w W1 := by rw [← HW1.out]; exact bel1 w _
  have hr1 : W1.heap[w.heap.size]? = some (.cells #[.int .i64 d.k, .int .i64 d.fr, .int .i64 d.v.s, .int .i64 d.v.b.i, .int .i64 d.v.b.t, .string d.v.v, .slice d.a d.l.length d.c, .bool d.o] 38 (0, 0)) := by rw [← HW1.out]; exact heap_alloc_last w _
  obtain ⟨⟨z0, z1, z2, z3, z4, z5, z6, z7⟩, _⟩ := row8 hr1
  have HB1 := Hid_of hb1
  have HR1 := Hid_of hr1
  clear hb1 hr1 hd
  go_enter Try.func6, Try.ntmps6
  go_upto_region 2 with fail
  rw [HW1.out]
  clear HW1
  go_wp2_with fail
  refine (lead_nil d.v.b d.fr W1).mono ?_
  rintro e w2 ⟨rfl, hb2⟩
  obtain ⟨W3, HW3⟩ : ∃ W3, Hid (w2.alloc (.cells #[.int .i64 0, .int .i64 0] 28) = W3) := ⟨_, Hid_of rfl⟩
  have hb3 : Below w2.heap.size w2 W3 := by rw [← HW3.out]; exact bel1 w2 _
  have hr3 : W3.heap[w2.heap.size]? = some (.cells #[.int .i64 0, .int .i64 0] 28 (0, 0)) := by rw [← HW3.out]; exact heap_alloc_last w2 _
  have HB3 := Hid_of (bel_up (bel_up HB1.out hb2 (Nat.le_refl _)) hb3 (Nat.le_refl _))
  have q3 := bel_row (bel_row HR1.out hb2) hb3
  obtain ⟨⟨y0, y1, y2, y3, y4, y5, y6, y7⟩, _⟩ := row8 q3
  have HQ3 := Hid_of q3
  have HR3 := Hid_of hr3
  clear hb2 hb3 hr3 q3 HB1 HR1 z0 z1 z2 z3 z4 z5 z6 z7
  go_upto_region 3 with fail
  rw [HW3.out]
  clear HW3
  go_wp2_with fail
  refine (propose_nil d.v.v W3).mono ?_
  rintro e w4 ⟨rfl, hb4⟩
  obtain ⟨W5, HW5⟩ : ∃ W5, Hid (w4.alloc (.cells #[.int .i64 0, .int .i64 0, .int .i64 0, .string ⟨#[]⟩] 36) = W5) := ⟨_, Hid_of rfl⟩
  have hb5 : Below w4.heap.size w4 W5 := by rw [← HW5.out]; exact bel1 w4 _
  have hr5 : W5.heap[w4.heap.size]? = some (.cells #[.int .i64 0, .int .i64 0, .int .i64 0, .string ⟨#[]⟩] 36 (0, 0)) := by rw [← HW5.out]; exact heap_alloc_last w4 _
  have hb35 := bel_up hb4 hb5 (Nat.le_refl _)
  have HB5 := Hid_of (bel_up HB3.out hb35 (Nat.le_refl _))
  have q5 := bel_row HQ3.out hb35
  have o5 := bel_row HR3.out hb35
  obtain ⟨⟨x0, x1, x2, x3, x4, x5, x6, x7⟩, _⟩ := row8 q5
  obtain ⟨⟨p0, p1⟩, _⟩ := row2 o5
  have HQ5 := Hid_of q5
  have HO5 := Hid_of o5
  have HR5 := Hid_of hr5
  have e0 := eq28 0 0 0 0
  clear hb4 hb5 hr5 hb35 q5 o5 HB3 HQ3 HR3 y0 y1 y2 y3 y4 y5 y6 y7
  go_upto_region 4 with fail
  rw [HW5.out]
  clear HW5
  go_wp2_with fail
  refine (promise_nil d.fr d.v.b d.a d.l.length d.c W5).mono ?_
  rintro e w6 ⟨rfl, hb6⟩
  have HB6 := Hid_of (bel_up HB5.out hb6 (Nat.le_refl _))
  have q6 := bel_row HQ5.out hb6
  have r6 := bel_row HR5.out hb6
  obtain ⟨⟨a0, a1, a2, a3, a4, a5, a6, a7⟩, _⟩ := row8 q6
  obtain ⟨⟨g0, g1, g2, g3⟩, _⟩ := row4 r6
  have e1 := eq36 0 0 0 ⟨#[]⟩
  clear hb6 q6 r6 HB5 HQ5 HO5 HR5 x0 x1 x2 x3 x4 x5 x6 x7 p0 p1
  go_wp2_with fail
  refine (leads_nil _).mono ?_
  rintro e w7 ⟨rfl, rfl⟩
  go_wp2_with fail
  refine (fill_nil _).mono ?_
  rintro e w8 ⟨rfl, rfl⟩
  go_wp2_with fail
  refine (step_nil d.v.b _).mono ?_
  rintro e w9 ⟨rfl, hb9⟩
  have HB9 := Hid_of (bel_up HB6.out hb9 (Nat.le_refl _))
  clear hb9 HB6 a0 a1 a2 a3 a4 a5 a6 a7 g0 g1 g2 g3
  go_wp2_with fail
  refine (next_nil _).mono ?_
  rintro e w10 ⟨rfl, rfl⟩
  go_wp2_with fail
  refine (awake_any _).mono ?_
  rintro e w11 ⟨rfl, hb11⟩
  have HB11 := Hid_of (bel_up HB9.out hb11 (Nat.le_refl _))
  clear hb11
  go_wp2
  go_ret
  exact ⟨rfl, HB11.out⟩

end Go.Proofs.Ytpolmfgklgggcaa
