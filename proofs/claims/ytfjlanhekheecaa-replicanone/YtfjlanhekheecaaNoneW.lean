/-
  Methods of none; the law ReplicaNone, walked.
-/
import Derived.Test.YtfjlanhekheecaaDD
namespace Go.Proofs.Ytfjlanhekheecaa
open Go.RowKit Go.Maps
set_option linter.unusedVariables false
open M (E V)
open Rm (NT R)

theorem row10 {w : World} {k : Nat} {v0 v1 v2 v3 v4 v5 v6 v7 v8 v9 : Value} {t : TypeId} (h : w.heap[k]? = some (.cells #[v0, v1, v2, v3, v4, v5, v6, v7, v8, v9] t (0, 0))) :
    (w.cell? ⟨k, 0, none⟩ = some v0 ∧ w.cell? ⟨k, 1, none⟩ = some v1 ∧ w.cell? ⟨k, 2, none⟩ = some v2 ∧ w.cell? ⟨k, 3, none⟩ = some v3 ∧ w.cell? ⟨k, 4, none⟩ = some v4 ∧ w.cell? ⟨k, 5, none⟩ = some v5 ∧ w.cell? ⟨k, 6, none⟩ = some v6 ∧ w.cell? ⟨k, 7, none⟩ = some v7 ∧ w.cell? ⟨k, 8, none⟩ = some v8 ∧ w.cell? ⟨k, 9, none⟩ = some v9) ∧ ∀ j, w.frozen? ⟨k, j, none⟩ = false :=
  ⟨⟨by rw [cell_of_row w k 0 _ _ _ h]; rfl, by rw [cell_of_row w k 1 _ _ _ h]; rfl, by rw [cell_of_row w k 2 _ _ _ h]; rfl, by rw [cell_of_row w k 3 _ _ _ h]; rfl, by rw [cell_of_row w k 4 _ _ _ h]; rfl, by rw [cell_of_row w k 5 _ _ _ h]; rfl, by rw [cell_of_row w k 6 _ _ _ h]; rfl, by rw [cell_of_row w k 7 _ _ _ h]; rfl, by rw [cell_of_row w k 8 _ _ _ h]; rfl, by rw [cell_of_row w k 9 _ _ _ h]; rfl⟩, fun j => frozen_of_row w k j _ _ h⟩
set_option maxRecDepth 100000
set_option maxHeartbeats 2000000
theorem crash_nil (w : World) : Calls Try.prog 15 #[.pointer none] w fun e w' => e = .returned (.tuple #[]) ∧ w' = w := by
  go_enter Try.func15, Try.ntmps15
  go_wp2
  exact bodyPost_ret (results_none rfl _ _ _) rfl ⟨rfl, rfl⟩
theorem lead_nil (w : World) : Calls Try.prog 9 #[.pointer none] w fun e w' => e = .returned (.slice none 0 0) ∧ w' = w := by
  go_enter Try.func9, Try.ntmps9
  go_wp2
  go_ret
  exact ⟨rfl, rfl⟩
theorem propose_nil (v : ByteArray) (w : World) : Calls Try.prog 10 #[.pointer none, .string v] w fun e w' => e = .returned (.tuple #[.slice none 0 0, .int .i64 1]) ∧ w' = w := by
  go_enter Try.func10, Try.ntmps10
  go_wp2
  go_ret2
  exact ⟨rfl, rfl⟩
theorem ask_nil (x : Int) (w : World) : Calls Try.prog 12 #[.pointer none, .int .i64 x] w fun e w' => e = .returned (.slice none 0 0) ∧ w' = w := by
  go_enter Try.func12, Try.ntmps12
  go_wp2
  go_ret
  exact ⟨rfl, rfl⟩
theorem trim_nil (x : Int) (w : World) : Calls Try.prog 18 #[.pointer none, .int .i64 x] w fun e w' => e = .returned (.int .i64 0) ∧ w' = w := by
  go_enter Try.func18, Try.ntmps18
  go_wp2
  go_ret
  exact ⟨rfl, rfl⟩
theorem log_nil (w : World) : Calls Try.prog 19 #[.pointer none] w fun e w' => e = .returned (.slice none 0 0) ∧ w' = w := by
  go_enter Try.func19, Try.ntmps19
  go_wp2
  go_ret
  exact ⟨rfl, rfl⟩
theorem next_nil (w : World) : Calls Try.prog 20 #[.pointer none] w fun e w' => e = .returned (.int .i64 0) ∧ w' = w := by
  go_enter Try.func20, Try.ntmps20
  go_wp2
  go_ret
  exact ⟨rfl, rfl⟩
theorem leads_nil (w : World) : Calls Try.prog 21 #[.pointer none] w fun e w' => e = .returned (.bool false) ∧ w' = w := by
  go_enter Try.func21, Try.ntmps21
  go_wp2
  go_ret
  exact ⟨rfl, rfl⟩
theorem take_nil (y : RN) (w : World) : Calls Try.prog 11 #[.pointer none, nV y] w fun e w' => e = .returned (.slice none 0 0) ∧ Below w.heap.size w w' := by
  obtain ⟨⟨k, f, t, s, ⟨bi, bt⟩, v⟩, ad, c⟩ := y
  obtain ⟨W1, HW1⟩ : ∃ W1, Hid (w.alloc (.cells #[.int .i64 k, .int .i64 f, .int .i64 t, .int .i64 s, .int .i64 bi, .int .i64 bt, .slice ad v.length c] 32) = W1) := ⟨_, Hid_of rfl⟩
  have hb1 : Below w.heap.size w W1 := by rw [← HW1.out]; exact bel1 w _
  have HB1 := Hid_of hb1
  have HS : Hid (∀ wq, Below W1.heap.size W1 wq → True ∧ True) := fun _ _ => ⟨trivial, trivial⟩
  simp only [nV]
  clear hb1
  go_enter Try.func11, Try.ntmps11
  go_upto_region 1 with fail
  rw [HW1.out]
  clear HW1
  refine wp_region_held_drew (S := fun wq => Below (W1).heap.size (W1) wq) (by kernel_rfl) (Below.drew (Below.refl _ _)) (fun hHeld => ?_)
  obtain ⟨wdx, hwdx⟩ : ∃ wd, W1.drew = wd := ⟨_, rfl⟩
  have hBwd : Below W1.heap.size W1 wdx := by rw [← hwdx]; exact Below.drew (Below.refl _ _)
  rw [hwdx] at hHeld ⊢
  clear hwdx
  refine Tm 0 ?p0x ?v0x hHeld ?r0x
  simp only [Act.put, Pa, Pb, Pc]
  refine Tm 1 ?p1x ?v1x hHeld ?r1x
  simp only [Act.put, Pa, Pb, Pc]
  refine Tm 2 ?p2x ?v2x hHeld ?r2x
  simp only [Act.put, Pa, Pb, Pc]
  refine Ts 3 ?p3x hHeld ?r3x
  simp only [Act.put, Pa, Pb, Pc]
  refine Ts 4 ?p4x hHeld ?r4x
  simp only [Act.put, Pa, Pb, Pc]
  refine Ts 5 ?p5x hHeld ?r5x
  simp only [Act.put, Pa, Pb, Pc]
  refine Ts 6 ?p6x hHeld ?r6x
  simp only [Act.put, Pa, Pb, Pc]
  refine Ts 7 ?p7x hHeld ?r7x
  simp only [Act.put, Pa, Pb, Pc]
  refine Ts 8 ?p8x hHeld ?r8x
  simp only [Act.put, Pa, Pb, Pc]
  refine Ts 9 ?p9x hHeld ?r9x
  simp only [Act.put, Pa, Pb, Pc]
  refine Tm 10 ?p10x ?v10x hHeld ?r10x
  simp only [Act.put, Pa, Pb, Pc]
  refine Tm 11 ?p11x ?v11x hHeld ?r11x
  simp only [Act.put, Pa, Pb, Pc]
  refine Ts 12 ?p12x hHeld ?r12x
  simp only [Act.put, Pa, Pb, Pc]
  refine Ts 13 ?p13x hHeld ?r13x
  simp only [Act.put, Pa, Pb, Pc]
  refine Ts 14 ?p14x hHeld ?r14x
  simp only [Act.put, Pa, Pb, Pc]
  refine Ts 15 ?p15x hHeld ?r15x
  simp only [Act.put, Pa, Pb, Pc]
  refine Ts 16 ?p16x hHeld ?r16x
  simp only [Act.put, Pa, Pb, Pc]
  refine Tm 17 ?p17x ?v17x hHeld ?r17x
  simp only [Act.put, Pa, Pb, Pc]
  refine wpAnyH_done (by kernel_rfl) ?_ _
  have HBQ := Hid_of (bel_up HB1.out hBwd (Nat.le_refl _))
  go_wp2
  go_ret
  exact ⟨rfl, HBQ.out⟩
theorem none_walk (d : D) (w : World) (hd : DOk w d) : Calls Try.prog 5 #[.agg #[.int .i64 d.k, .int .i64 d.dst, .string d.tx, .int .i64 d.y.x.k, .int .i64 d.y.x.f, .int .i64 d.y.x.t, .int .i64 d.y.x.s, .int .i64 d.y.x.b.i, .int .i64 d.y.x.b.t, .slice d.y.ad d.y.x.v.length d.y.c]] w fun e w' => e = .returned (.bool true) ∧ Below w.heap.size w w' := by
  obtain ⟨W1, HW1⟩ : ∃ W1, Hid (w.alloc (.cells #[.int .i64 d.k, .int .i64 d.dst, .string d.tx, .int .i64 d.y.x.k, .int .i64 d.y.x.f, .int .i64 d.y.x.t, .int .i64 d.y.x.s, .int .i64 d.y.x.b.i, .int .i64 d.y.x.b.t, .slice d.y.ad d.y.x.v.length d.y.c] 34) = W1) := ⟨_, Hid_of rfl⟩
  have hb1 : Below w.heap.size w W1 := by rw [← HW1.out]; exact bel1 w _
  have hr1 : W1.heap[w.heap.size]? = some (.cells #[.int .i64 d.k, .int .i64 d.dst, .string d.tx, .int .i64 d.y.x.k, .int .i64 d.y.x.f, .int .i64 d.y.x.t, .int .i64 d.y.x.s, .int .i64 d.y.x.b.i, .int .i64 d.y.x.b.t, .slice d.y.ad d.y.x.v.length d.y.c] 34 (0, 0)) := by rw [← HW1.out]; exact heap_alloc_last w _
  obtain ⟨⟨z0, z1, z2, z3, z4, z5, z6, z7, z8, z9⟩, _⟩ := row10 hr1
  have HB1 := Hid_of hb1
  have HR1 := Hid_of hr1
  clear hb1 hr1 hd
  go_enter Try.func5, Try.ntmps5
  go_upto_region 2 with fail
  rw [HW1.out]
  clear HW1
  go_wp2_with fail
  refine (crash_nil W1).mono ?_
  rintro e w2 ⟨rfl, rfl⟩
  go_wp2_with fail
  refine (propose_nil d.tx w2).mono ?_
  rintro e w3 ⟨rfl, rfl⟩
  go_wp2_with fail
  refine (lead_nil w3).mono ?_
  rintro e w4 ⟨rfl, rfl⟩
  go_wp2_with fail
  refine (take_nil d.y w4).mono ?_
  rintro e w5 ⟨rfl, hb5⟩
  have HB5 := Hid_of (bel_up HB1.out hb5 (Nat.le_refl _))
  obtain ⟨⟨y0, y1, y2, y3, y4, y5, y6, y7, y8, y9⟩, _⟩ := row10 (bel_row HR1.out hb5)
  clear hb5 z0 z1 z2 z3 z4 z5 z6 z7 z8 z9
  go_wp2_with fail
  refine (ask_nil d.dst w5).mono ?_
  rintro e w6 ⟨rfl, rfl⟩
  go_wp2_with fail
  refine (trim_nil d.dst w6).mono ?_
  rintro e w7 ⟨rfl, rfl⟩
  go_wp2_with fail
  refine (log_nil w7).mono ?_
  rintro e w8 ⟨rfl, rfl⟩
  go_wp2_with fail
  refine (next_nil w8).mono ?_
  rintro e w9 ⟨rfl, rfl⟩
  go_wp2_with fail
  refine (leads_nil w9).mono ?_
  rintro e w10 ⟨rfl, rfl⟩
  go_wp2_with fail
  refine (awake_any w10).mono ?_
  rintro e w11 ⟨rfl, hb11⟩
  have HB11 := Hid_of (bel_up HB5.out hb11 (Nat.le_refl _))
  clear hb11
  go_wp2
  go_ret
  exact ⟨rfl, HB11.out⟩
end Go.Proofs.Ytfjlanhekheecaa
