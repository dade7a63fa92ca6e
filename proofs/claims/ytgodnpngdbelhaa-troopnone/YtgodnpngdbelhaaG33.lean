/-
  Methods of nodes that are none.
-/
import Derived.Test.YtgodnpngdbelhaaG32
namespace Go.Proofs.Ytgodnpngdbelhaa
open Go.RowKit Go.Maps
set_option linter.unusedVariables false
open M (E V)
open Rm (NT R)
open Tm (T)
set_option maxRecDepth 100000
set_option maxHeartbeats 1000000
theorem node_nil (i : Int) (w : World) : Calls Try.prog 25 #[.pointer none, .int .i64 i] w fun e w' => e = .returned (.pointer none) ∧ w' = w := by
  go_enter Try.func25, Try.ntmps25
  go_wp2
  go_ret
  exact ⟨rfl, rfl⟩
theorem waiting_nil (w : World) : Calls Try.prog 17 #[.pointer none] w fun e w' => e = .returned (.int .i64 0) ∧ w' = w := by
  go_enter Try.func17, Try.ntmps17
  go_wp2
  go_ret
  exact ⟨rfl, rfl⟩
theorem place_nil (k : Int) (w : World) : Calls Try.prog 37 #[.pointer none, .int .i64 k] w fun e w' => e = .returned (.tuple #[.int .i64 0, .bool false]) ∧ w' = w := by
  go_enter Try.func37, Try.ntmps37
  go_wp2_with fail
  refine (waiting_nil _).mono ?_
  rintro e w1 ⟨rfl, rfl⟩
  go_wp2
  go_ret2
  exact ⟨rfl, rfl⟩
theorem takeT_nil (k : Int) (w : World) : Calls Try.prog 34 #[.pointer none, .int .i64 k] w fun e w' => e = .returned (.tuple #[.agg #[.int .i64 0, .int .i64 0, .int .i64 0, .int .i64 0, .int .i64 0, .int .i64 0, .slice none 0 0], .bool false]) ∧ Below w.heap.size w w' := by
  obtain ⟨W1, HW1⟩ : ∃ W1, Hid (w.alloc (.cells #[.int .i64 0, .int .i64 0, .int .i64 0, .int .i64 0, .int .i64 0, .int .i64 0, .slice none 0 0] 63) = W1) := ⟨_, Hid_of rfl⟩
  have hb1 : Below w.heap.size w W1 := by rw [← HW1.out]; exact bel1 w _
  have hz1 : W1.heap[w.heap.size]? = some (.cells #[.int .i64 0, .int .i64 0, .int .i64 0, .int .i64 0, .int .i64 0, .int .i64 0, .slice none 0 0] 63 (0, 0)) := by rw [← HW1.out]; exact heap_alloc_last w _
  obtain ⟨gz, hgz⟩ : ∃ gz, w.heap.size = gz := ⟨_, rfl⟩
  rw [hgz] at hz1
  obtain ⟨⟨z0, z1, z2, z3, z4, z5, z6⟩, zf⟩ := row7 hz1
  have zf0 := zf 0
  have zf1 := zf 1
  have zf2 := zf 2
  have zf3 := zf 3
  have zf4 := zf 4
  have zf5 := zf 5
  have zf6 := zf 6
  have HB1 := Hid_of hb1
  have HGZ := Hid_of hgz
  have HZ1 := Hid_of hz1
  clear hb1 hz1 hgz zf
  go_enter Try.func34, Try.ntmps34
  go_upto_region 1 with fail
  rw [HW1.out, HGZ.out]
  clear HW1
  go_wp2_with fail
  refine (place_nil k _).mono ?_
  rintro e w1 ⟨rfl, rfl⟩
  go_wp2
  refine bodyPost_ret (v := .tuple #[.agg #[.int .i64 0, .int .i64 0, .int .i64 0, .int .i64 0, .int .i64 0, .int .i64 0, .slice none 0 0], .bool false]) ?_ rfl ⟨rfl, (HB1.out.trans (Fr.below (B := w.heap.size) (put7_fr _ gz _ _ _ _ _ _ _) (fun k e => by have := HGZ.out; omega) HB1.out.size))⟩
  exact res7 _ _ gz _ _ _ _ _ _ _ rfl (put7_row HZ1.out _ _ _ _ _ _ _)
theorem run28_nil (i : Int) (w : World) : Calls Try.prog 27 #[.pointer none, .agg #[.int .i64 i, .func (.func 28) #[] #[]]] w fun e w' => e = .returned (.bool false) ∧ Below w.heap.size w w' := by
  obtain ⟨W1, HW1⟩ : ∃ W1, Hid (w.alloc (.cells #[.int .i64 i, .func (.func 28) #[] #[]] 55) = W1) := ⟨_, Hid_of rfl⟩
  have hb1 : Below w.heap.size w W1 := by rw [← HW1.out]; exact bel1 w _
  have hz1 : W1.heap[w.heap.size]? = some (.cells #[.int .i64 i, .func (.func 28) #[] #[]] 55 (0, 0)) := by rw [← HW1.out]; exact heap_alloc_last w _
  obtain ⟨gz, hgz⟩ : ∃ gz, w.heap.size = gz := ⟨_, rfl⟩
  rw [hgz] at hz1
  obtain ⟨⟨c0, c1⟩, cf⟩ := row2 hz1
  have HB1 := Hid_of hb1
  have HGZ := Hid_of hgz
  clear hb1 hz1 hgz cf
  go_enter Try.func27, Try.ntmps27
  go_upto_region 1 with fail
  rw [HW1.out, HGZ.out]
  clear HW1
  go_wp2_with fail
  refine (node_nil i _).mono ?_
  rintro e w1 ⟨rfl, rfl⟩
  go_wp2
  go_ret
  exact ⟨rfl, HB1.out⟩
theorem run30_nil (i : Int) (p1 p2 : Value) (w : World) : Calls Try.prog 27 #[.pointer none, .agg #[.int .i64 i, .func (.func 30) #[] #[p1, p2]]] w fun e w' => e = .returned (.bool false) ∧ Below w.heap.size w w' := by
  obtain ⟨W1, HW1⟩ : ∃ W1, Hid (w.alloc (.cells #[.int .i64 i, .func (.func 30) #[] #[p1, p2]] 55) = W1) := ⟨_, Hid_of rfl⟩
  have hb1 : Below w.heap.size w W1 := by rw [← HW1.out]; exact bel1 w _
  have hz1 : W1.heap[w.heap.size]? = some (.cells #[.int .i64 i, .func (.func 30) #[] #[p1, p2]] 55 (0, 0)) := by rw [← HW1.out]; exact heap_alloc_last w _
  obtain ⟨gz, hgz⟩ : ∃ gz, w.heap.size = gz := ⟨_, rfl⟩
  rw [hgz] at hz1
  obtain ⟨⟨c0, c1⟩, cf⟩ := row2 hz1
  have HB1 := Hid_of hb1
  have HGZ := Hid_of hgz
  clear hb1 hz1 hgz cf
  go_enter Try.func27, Try.ntmps27
  go_upto_region 1 with fail
  rw [HW1.out, HGZ.out]
  clear HW1
  go_wp2_with fail
  refine (node_nil i _).mono ?_
  rintro e w1 ⟨rfl, rfl⟩
  go_wp2
  go_ret
  exact ⟨rfl, HB1.out⟩
theorem run32_nil (i : Int) (p1 : Value) (w : World) : Calls Try.prog 27 #[.pointer none, .agg #[.int .i64 i, .func (.func 32) #[] #[p1]]] w fun e w' => e = .returned (.bool false) ∧ Below w.heap.size w w' := by
  obtain ⟨W1, HW1⟩ : ∃ W1, Hid (w.alloc (.cells #[.int .i64 i, .func (.func 32) #[] #[p1]] 55) = W1) := ⟨_, Hid_of rfl⟩
  have hb1 : Below w.heap.size w W1 := by rw [← HW1.out]; exact bel1 w _
  have hz1 : W1.heap[w.heap.size]? = some (.cells #[.int .i64 i, .func (.func 32) #[] #[p1]] 55 (0, 0)) := by rw [← HW1.out]; exact heap_alloc_last w _
  obtain ⟨gz, hgz⟩ : ∃ gz, w.heap.size = gz := ⟨_, rfl⟩
  rw [hgz] at hz1
  obtain ⟨⟨c0, c1⟩, cf⟩ := row2 hz1
  have HB1 := Hid_of hb1
  have HGZ := Hid_of hgz
  clear hb1 hz1 hgz cf
  go_enter Try.func27, Try.ntmps27
  go_upto_region 1 with fail
  rw [HW1.out, HGZ.out]
  clear HW1
  go_wp2_with fail
  refine (node_nil i _).mono ?_
  rintro e w1 ⟨rfl, rfl⟩
  go_wp2
  go_ret
  exact ⟨rfl, HB1.out⟩
theorem run35_nil (i : Int) (p1 : Value) (w : World) : Calls Try.prog 27 #[.pointer none, .agg #[.int .i64 i, .func (.func 35) #[] #[p1]]] w fun e w' => e = .returned (.bool false) ∧ Below w.heap.size w w' := by
  obtain ⟨W1, HW1⟩ : ∃ W1, Hid (w.alloc (.cells #[.int .i64 i, .func (.func 35) #[] #[p1]] 55) = W1) := ⟨_, Hid_of rfl⟩
  have hb1 : Below w.heap.size w W1 := by rw [← HW1.out]; exact bel1 w _
  have hz1 : W1.heap[w.heap.size]? = some (.cells #[.int .i64 i, .func (.func 35) #[] #[p1]] 55 (0, 0)) := by rw [← HW1.out]; exact heap_alloc_last w _
  obtain ⟨gz, hgz⟩ : ∃ gz, w.heap.size = gz := ⟨_, rfl⟩
  rw [hgz] at hz1
  obtain ⟨⟨c0, c1⟩, cf⟩ := row2 hz1
  have HB1 := Hid_of hb1
  have HGZ := Hid_of hgz
  clear hb1 hz1 hgz cf
  go_enter Try.func27, Try.ntmps27
  go_upto_region 1 with fail
  rw [HW1.out, HGZ.out]
  clear HW1
  go_wp2_with fail
  refine (node_nil i _).mono ?_
  rintro e w1 ⟨rfl, rfl⟩
  go_wp2
  go_ret
  exact ⟨rfl, HB1.out⟩
theorem run39_nil (i : Int) (w : World) : Calls Try.prog 27 #[.pointer none, .agg #[.int .i64 i, .func (.func 39) #[] #[]]] w fun e w' => e = .returned (.bool false) ∧ Below w.heap.size w w' := by
  obtain ⟨W1, HW1⟩ : ∃ W1, Hid (w.alloc (.cells #[.int .i64 i, .func (.func 39) #[] #[]] 55) = W1) := ⟨_, Hid_of rfl⟩
  have hb1 : Below w.heap.size w W1 := by rw [← HW1.out]; exact bel1 w _
  have hz1 : W1.heap[w.heap.size]? = some (.cells #[.int .i64 i, .func (.func 39) #[] #[]] 55 (0, 0)) := by rw [← HW1.out]; exact heap_alloc_last w _
  obtain ⟨gz, hgz⟩ : ∃ gz, w.heap.size = gz := ⟨_, rfl⟩
  rw [hgz] at hz1
  obtain ⟨⟨c0, c1⟩, cf⟩ := row2 hz1
  have HB1 := Hid_of hb1
  have HGZ := Hid_of hgz
  clear hb1 hz1 hgz cf
  go_enter Try.func27, Try.ntmps27
  go_upto_region 1 with fail
  rw [HW1.out, HGZ.out]
  clear HW1
  go_wp2_with fail
  refine (node_nil i _).mono ?_
  rintro e w1 ⟨rfl, rfl⟩
  go_wp2
  go_ret
  exact ⟨rfl, HB1.out⟩
theorem leadT_nil (i : Int) (w : World) : Calls Try.prog 14 #[.pointer none, .int .i64 i] w fun e w' => e = .returned (.bool false) ∧ Below w.heap.size w w' := by
  go_enter Try.func14, Try.ntmps14
  go_wp2_with fail
  refine (run28_nil i w).mono ?_
  rintro e w1 ⟨rfl, hb⟩
  have HB := Hid_of hb
  clear hb
  go_wp2
  go_ret
  exact ⟨rfl, HB.out⟩
theorem crashT_nil (i : Int) (w : World) : Calls Try.prog 22 #[.pointer none, .int .i64 i] w fun e w' => e = .returned (.bool false) ∧ Below w.heap.size w w' := by
  go_enter Try.func22, Try.ntmps22
  go_wp2_with fail
  refine (run39_nil i w).mono ?_
  rintro e w1 ⟨rfl, hb⟩
  have HB := Hid_of hb
  clear hb
  go_wp2
  go_ret
  exact ⟨rfl, HB.out⟩
theorem proposeT_nil (i : Int) (v : ByteArray) (w : World) : Calls Try.prog 16 #[.pointer none, .int .i64 i, .string v] w fun e w' => e = .returned (.int .i64 1) ∧ Below w.heap.size w w' := by
  obtain ⟨W1, HW1⟩ : ∃ W1, Hid (w.alloc (.cells #[.string v] 9) = W1) := ⟨_, Hid_of rfl⟩
  have hb1 : Below w.heap.size w W1 := by rw [← HW1.out]; exact bel1 w _
  obtain ⟨W2, HW2⟩ : ∃ W2, Hid (W1.alloc (.cells #[.int .i64 1] 37) = W2) := ⟨_, Hid_of rfl⟩
  have hb2 : Below W1.heap.size W1 W2 := by rw [← HW2.out]; exact bel1 W1 _
  have hz2 : W2.heap[W1.heap.size]? = some (.cells #[.int .i64 1] 37 (0, 0)) := by rw [← HW2.out]; exact heap_alloc_last W1 _
  have HB := Hid_of (bel_up hb1 hb2 (Nat.le_refl _))
  have HZ := Hid_of hz2
  clear hb1 hb2 hz2
  obtain ⟨gy, hgy⟩ : ∃ gy, W1.heap.size = gy := ⟨_, rfl⟩
  have HGY := Hid_of hgy
  rw [hgy] at HZ
  clear hgy
  go_enter Try.func16, Try.ntmps16
  go_upto_region 1 with fail
  rw [HW1.out]
  clear HW1
  go_upto_region 2 with fail
  rw [HW2.out, HGY.out]
  clear HW2
  go_wp2_with fail
  refine (run30_nil i _ _ _).mono ?_
  rintro e w3 ⟨rfl, hb⟩
  obtain ⟨c0, _⟩ := row1 (bel_row HZ.out hb)
  have HB := Hid_of (bel_up HB.out hb (Nat.le_refl _))
  clear hb
  go_wp2
  go_ret
  exact ⟨rfl, HB.out⟩
theorem askT_nil (i z : Int) (w : World) : Calls Try.prog 18 #[.pointer none, .int .i64 i, .int .i64 z] w fun e w' => e = .returned (.bool false) ∧ Below w.heap.size w w' := by
  obtain ⟨W1, HW1⟩ : ∃ W1, Hid (w.alloc (.cells #[.int .i64 z] 3) = W1) := ⟨_, Hid_of rfl⟩
  have hb1 : Below w.heap.size w W1 := by rw [← HW1.out]; exact bel1 w _
  have hz1 : W1.heap[w.heap.size]? = some (.cells #[.int .i64 z] 3 (0, 0)) := by rw [← HW1.out]; exact heap_alloc_last w _
  obtain ⟨c0, _⟩ := row1 hz1
  have HB := Hid_of hb1
  clear hb1 hz1
  obtain ⟨gy, hgy⟩ : ∃ gy, w.heap.size = gy := ⟨_, rfl⟩
  rw [hgy] at c0
  have HGY := Hid_of hgy
  clear hgy
  go_enter Try.func18, Try.ntmps18
  go_upto_region 1 with fail
  rw [HW1.out, HGY.out]
  clear HW1
  go_wp2_with fail
  refine (node_nil z _).mono ?_
  rintro e w1 ⟨rfl, rfl⟩
  go_wp2
  go_ret
  exact ⟨rfl, HB.out⟩
theorem deliverT_nil (k : Int) (w : World) : Calls Try.prog 19 #[.pointer none, .int .i64 k] w fun e w' => e = .returned (.bool false) ∧ Below w.heap.size w w' := by
  go_enter Try.func19, Try.ntmps19
  go_wp2_with fail
  refine (takeT_nil k w).mono ?_
  rintro e w1 ⟨rfl, hb⟩
  have HB := Hid_of (fun o => bel_up hb (bel1 w1 o) (Nat.le_refl _))
  clear hb
  go_wp2
  go_ret
  exact ⟨rfl, HB.out _⟩
theorem dropT_nil (k : Int) (w : World) : Calls Try.prog 20 #[.pointer none, .int .i64 k] w fun e w' => e = .returned (.bool false) ∧ Below w.heap.size w w' := by
  go_enter Try.func20, Try.ntmps20
  go_wp2_with fail
  refine (takeT_nil k w).mono ?_
  rintro e w1 ⟨rfl, hb⟩
  have HB := Hid_of (fun o => bel_up hb (bel1 w1 o) (Nat.le_refl _))
  clear hb
  go_wp2
  go_ret
  exact ⟨rfl, HB.out _⟩
theorem doubleT_nil (k : Int) (w : World) : Calls Try.prog 21 #[.pointer none, .int .i64 k] w fun e w' => e = .returned (.bool false) ∧ Below w.heap.size w w' := by
  go_enter Try.func21, Try.ntmps21
  go_wp2_with fail
  refine (place_nil k w).mono ?_
  rintro e w1 ⟨rfl, rfl⟩
  go_wp2
  go_ret
  exact ⟨rfl, Below.refl _ _⟩
theorem logT_nil (i : Int) (w : World) : Calls Try.prog 12 #[.pointer none, .int .i64 i] w fun e w' => e = .returned (.slice none 0 0) ∧ w' = w := by
  go_enter Try.func12, Try.ntmps12
  go_wp2_with fail
  refine (node_nil i w).mono ?_
  rintro e w1 ⟨rfl, rfl⟩
  go_wp2_with fail
  refine (log_nil _).mono ?_
  rintro e w2 ⟨rfl, rfl⟩
  go_wp2
  go_ret
  exact ⟨rfl, rfl⟩
theorem leadsT_nil (i : Int) (w : World) : Calls Try.prog 23 #[.pointer none, .int .i64 i] w fun e w' => e = .returned (.bool false) ∧ w' = w := by
  go_enter Try.func23, Try.ntmps23
  go_wp2_with fail
  refine (node_nil i w).mono ?_
  rintro e w1 ⟨rfl, rfl⟩
  go_wp2_with fail
  refine (leads_nil _).mono ?_
  rintro e w2 ⟨rfl, rfl⟩
  go_wp2
  go_ret
  exact ⟨rfl, rfl⟩
end Go.Proofs.Ytgodnpngdbelhaa
namespace Go.Proofs.Ytgodnpngdbelhaa
open Go.RowKit Go.Maps
set_option linter.unusedVariables false
open M (E V)
open Rm (NT R)
open Tm (T)
set_option maxRecDepth 100000
set_option maxHeartbeats 1000000
theorem none_walk (d : D) (w : World) (hok : d.ok) : Calls Try.prog 6 #[dV d] w fun e w' => e = .returned (.bool true) ∧ Below w.heap.size w w' := by
  clear hok
  obtain ⟨k, a, z, v⟩ := d
  simp only [dV]
  obtain ⟨W0, HW0⟩ : ∃ W0, Hid (w.alloc (.cells #[.int .i64 k, .int .i64 a, .int .i64 z, .string v] 31) = W0) := ⟨_, Hid_of rfl⟩
  have hb0 : Below w.heap.size w W0 := by rw [← HW0.out]; exact bel1 w _
  have hz0 : W0.heap[w.heap.size]? = some (.cells #[.int .i64 k, .int .i64 a, .int .i64 z, .string v] 31 (0, 0)) := by rw [← HW0.out]; exact heap_alloc_last w _
  obtain ⟨gz, hgz⟩ : ∃ gz, w.heap.size = gz := ⟨_, rfl⟩
  rw [hgz] at hz0
  obtain ⟨⟨c0, c1, c2, c3⟩, _⟩ := row4 hz0
  have HB := Hid_of hb0
  have HZ := Hid_of hz0
  have HGZ := Hid_of hgz
  clear hb0 hz0 hgz
  go_enter Try.func6, Try.ntmps6
  go_upto_region 1 with fail
  rw [HW0.out, HGZ.out]
  clear HW0
  go_wp2_with fail
  refine (leadT_nil a _).mono ?_
  rintro e w0 ⟨rfl, hb⟩
  clear c0 c1 c2 c3
  have hz := bel_row HZ.out hb
  obtain ⟨⟨c0, c1, c2, c3⟩, _⟩ := row4 hz
  have HB := Hid_of (bel_up HB.out hb (Nat.le_refl _))
  have HZ := Hid_of hz
  clear hb hz
  go_wp2_with fail
  refine (proposeT_nil a v _).mono ?_
  rintro e w1 ⟨rfl, hb⟩
  clear c0 c1 c2 c3
  have hz := bel_row HZ.out hb
  obtain ⟨⟨c0, c1, c2, c3⟩, _⟩ := row4 hz
  have HB := Hid_of (bel_up HB.out hb (Nat.le_refl _))
  have HZ := Hid_of hz
  clear hb hz
  go_wp2_with fail
  refine (askT_nil a z _).mono ?_
  rintro e w2 ⟨rfl, hb⟩
  clear c0 c1 c2 c3
  have hz := bel_row HZ.out hb
  obtain ⟨⟨c0, c1, c2, c3⟩, _⟩ := row4 hz
  have HB := Hid_of (bel_up HB.out hb (Nat.le_refl _))
  have HZ := Hid_of hz
  clear hb hz
  go_wp2_with fail
  refine (deliverT_nil a _).mono ?_
  rintro e w3 ⟨rfl, hb⟩
  clear c0 c1 c2 c3
  have hz := bel_row HZ.out hb
  obtain ⟨⟨c0, c1, c2, c3⟩, _⟩ := row4 hz
  have HB := Hid_of (bel_up HB.out hb (Nat.le_refl _))
  have HZ := Hid_of hz
  clear hb hz
  go_wp2_with fail
  refine (dropT_nil a _).mono ?_
  rintro e w4 ⟨rfl, hb⟩
  clear c0 c1 c2 c3
  have hz := bel_row HZ.out hb
  obtain ⟨⟨c0, c1, c2, c3⟩, _⟩ := row4 hz
  have HB := Hid_of (bel_up HB.out hb (Nat.le_refl _))
  have HZ := Hid_of hz
  clear hb hz
  go_wp2_with fail
  refine (doubleT_nil a _).mono ?_
  rintro e w5 ⟨rfl, hb⟩
  clear c0 c1 c2 c3
  have hz := bel_row HZ.out hb
  obtain ⟨⟨c0, c1, c2, c3⟩, _⟩ := row4 hz
  have HB := Hid_of (bel_up HB.out hb (Nat.le_refl _))
  have HZ := Hid_of hz
  clear hb hz
  go_wp2_with fail
  refine (crashT_nil a _).mono ?_
  rintro e w6 ⟨rfl, hb⟩
  clear c0 c1 c2 c3
  have hz := bel_row HZ.out hb
  obtain ⟨⟨c0, c1, c2, c3⟩, _⟩ := row4 hz
  have HB := Hid_of (bel_up HB.out hb (Nat.le_refl _))
  have HZ := Hid_of hz
  clear hb hz
  go_wp2_with fail
  refine (logT_nil a _).mono ?_
  rintro e w7 ⟨rfl, rfl⟩
  go_wp2_with fail
  refine (waiting_nil _).mono ?_
  rintro e w8 ⟨rfl, rfl⟩
  go_wp2_with fail
  refine (leadsT_nil a _).mono ?_
  rintro e w9 ⟨rfl, rfl⟩
  go_wp2_with fail
  refine (awake_any _).mono ?_
  rintro e w10 ⟨rfl, hb⟩
  clear c0 c1 c2 c3
  have hz := bel_row HZ.out hb
  obtain ⟨⟨c0, c1, c2, c3⟩, _⟩ := row4 hz
  have HB := Hid_of (bel_up HB.out hb (Nat.le_refl _))
  have HZ := Hid_of hz
  clear hb hz
  go_wp2
  go_ret
  exact ⟨rfl, HB.out⟩
end Go.Proofs.Ytgodnpngdbelhaa
