/-
  The chapter's example.
-/
import Derived.Test.YtkohbjpinoonmaaG
namespace Go.Proofs.Ytkohbjpinoonmaa
open Go.RowKit
set_option linter.unusedVariables false
open M (E V)

theorem exCmp (w : World) : Calls Try.prog 8 #[.agg #[.int .i64 1, .int .i64 2], .agg #[.int .i64 2, .int .i64 0]] w fun e w' => e = .returned (.int .i64 (-1)) ∧ Below w.heap.size w w' := cmp_any ⟨1, 2⟩ ⟨2, 0⟩ w
theorem exNext (w : World) : Calls Try.prog 12 #[.agg #[.int .i64 1, .int .i64 2], .int .i64 1] w fun e w' => e = .returned (.agg #[.int .i64 2, .int .i64 1]) ∧ Below w.heap.size w w' := next_any ⟨1, 2⟩ 1 w
theorem exQ5 (w : World) : Calls Try.prog 14 #[.int .i64 5] w fun e w' => e = .returned (.int .i64 3) ∧ w' = w := quorum_any 5 w
theorem exQ8 (w : World) : Calls Try.prog 14 #[.int .i64 8] w fun e w' => e = .returned (.int .i64 0) ∧ w' = w := quorum_any 8 w
theorem exVa (w : World) : Calls Try.prog 10 #[.agg #[.int .i64 1, .int .i64 2]] w fun e w' => e = .returned (.bool true) ∧ Below w.heap.size w w' := valid_any ⟨1, 2⟩ w
theorem exVb (w : World) : Calls Try.prog 10 #[.agg #[.int .i64 0, .int .i64 7]] w fun e w' => e = .returned (.bool false) ∧ Below w.heap.size w w' := valid_any ⟨0, 7⟩ w
theorem exMax (w : World) (g : Nat) (h : w.heap[g]? = some (.cells #[.int .i64 1, .int .i64 2, .int .i64 2, .int .i64 0] 23 (0, 0))) : Calls Try.prog 19 #[.slice (some ⟨g, 0, none⟩) 2 2] w fun e w' => e = .returned (.agg #[.int .i64 2, .int .i64 0]) ∧ Below w.heap.size w w' :=
  max_any (some ⟨g, 0, none⟩) 2 [⟨1, 2⟩, ⟨2, 0⟩] w (at_row (l := [⟨1, 2⟩, ⟨2, 0⟩]) h) (by decide)
theorem at_votes {w : World} {g : Nat} {l : List V} (h : w.heap[g]? = some (.cells (vl.cells l).toArray 33 (0, 0))) : AtL vl w (some ⟨g, 0, none⟩) l := by
  intro j hj
  refine ⟨g, 0, rfl, fun q hq => ?_⟩
  rw [cell_of_row w g _ _ _ _ h, List.getElem?_toArray, Nat.zero_add]
  exact vl.get l j hj q hq
theorem exPick (w : World) (g : Nat) (h : w.heap[g]? = some (.cells #[.int .i64 0, .int .i64 1, .int .i64 2, .string ⟨#[97]⟩, .int .i64 0, .int .i64 2, .int .i64 0, .string ⟨#[98]⟩] 33 (0, 0))) : Calls Try.prog 17 #[.slice (some ⟨g, 0, none⟩) 2 2] w fun e w' => e = .returned (.tuple #[.agg #[.int .i64 0, .int .i64 2, .int .i64 0, .string ⟨#[98]⟩], .bool true]) ∧ Below w.heap.size w w' :=
  pick_any (some ⟨g, 0, none⟩) 2 [⟨0, ⟨1, 2⟩, ⟨#[97]⟩⟩, ⟨0, ⟨2, 0⟩, ⟨#[98]⟩⟩] w (at_votes (l := [⟨0, ⟨1, 2⟩, ⟨#[97]⟩⟩, ⟨0, ⟨2, 0⟩, ⟨#[98]⟩⟩]) h) (by decide) (fun x hx => by
    simp only [List.mem_cons, List.not_mem_nil, or_false] at hx
    rcases hx with rfl | rfl <;> decide)
set_option maxRecDepth 100000 in
set_option maxHeartbeats 2000000 in
theorem awake_any (w : World) : Calls Try.prog 16 #[] w fun e w' => e = .returned (.bool true) ∧ Below w.heap.size w w' := by
  obtain ⟨W1, HW1⟩ : ∃ W1, Hid ((w.alloc (.cells #[.int .i64 1, .int .i64 2] 23)).alloc (.cells #[.int .i64 2, .int .i64 0] 23) = W1) := ⟨_, Hid_of rfl⟩
  have HB1 : Hid (Below w.heap.size w W1) := by rw [← HW1.out]; exact bel_up (bel1 w _) (bel1 _ _) (Nat.le_refl _)
  have ha1 : W1.heap[w.heap.size]? = some (.cells #[.int .i64 1, .int .i64 2] 23 (0, 0)) := by rw [← HW1.out]; exact heap_alloc2_old w _ _
  have hb1 : W1.heap[w.heap.size + 1]? = some (.cells #[.int .i64 2, .int .i64 0] 23 (0, 0)) := by rw [← HW1.out]; exact heap_alloc2_new w _ _
  have HA1 := Hid_of ha1
  have HC1 := Hid_of hb1
  obtain ⟨⟨p0, p1⟩, -⟩ := row2 ha1
  obtain ⟨⟨q0, q1⟩, -⟩ := row2 hb1
  clear ha1 hb1
  go_enter Try.func16, Try.ntmps16
  go_upto_region 2 with fail
  rw [HW1.out]
  clear HW1
  go_wp2_with fail
  refine (exPick _ _ (heap_alloc_last _ _)).mono ?_
  rintro e w2 ⟨rfl, hb2⟩
  have HB2 : Hid (Below W1.heap.size W1 w2) := bel_up (bel1 W1 _) hb2 (Nat.le_refl _)
  have hr3 := heap_alloc_last w2 (.cells #[.int .i64 0, .int .i64 2, .int .i64 0, .string ⟨#[98]⟩] 33)
  obtain ⟨W3, HW3⟩ : ∃ W3, Hid (w2.alloc (.cells #[.int .i64 0, .int .i64 2, .int .i64 0, .string ⟨#[98]⟩] 33) = W3) := ⟨_, Hid_of rfl⟩
  have HB3 : Hid (Below w2.heap.size w2 W3) := by rw [← HW3.out]; exact bel1 w2 _
  rw [HW3.out] at hr3
  have HBW : Hid (Below w.heap.size w W3) := bel_up (bel_up HB1.out HB2.out (Nat.le_refl _)) HB3.out (Nat.le_refl _)
  have HS : Hid (∀ w', Below W3.heap.size W3 w' → (w'.cell? ⟨w.heap.size, 0, none⟩ = some (.int .i64 1) ∧ w'.cell? ⟨w.heap.size, 1, none⟩ = some (.int .i64 2)) ∧ (w'.cell? ⟨w.heap.size + 1, 0, none⟩ = some (.int .i64 2) ∧ w'.cell? ⟨w.heap.size + 1, 1, none⟩ = some (.int .i64 0)) ∧ w'.cell? ⟨w2.heap.size, 3, none⟩ = some (.string ⟨#[98]⟩)) := fun w' hw' => by
    have h1 := bel_row (bel_row (bel_row HA1.out HB2.out) HB3.out) hw'
    have h2 := bel_row (bel_row (bel_row HC1.out HB2.out) HB3.out) hw'
    have h3 := bel_row hr3 hw'
    exact ⟨(row2 h1).1, (row2 h2).1, (row4 h3).1.2.2.2⟩
  have e1 := eq23 2 1 2 1
  have e2 := eq23 2 0 2 0
  clear hb2 hr3 HA1 HC1 HB1 HB2 HB3 p0 p1 q0 q1
  go_upto_region 3 with fail
  rw [HW3.out]
  clear HW3
  refine wp_region_held_drew (S := fun wq => Below (W3).heap.size (W3) wq) (by kernel_rfl) (Below.drew (Below.refl _ _)) (fun hHeld => ?_)
  refine wpAnyH_take (i := 0) (oi := ?p0a) (v := ?v0a) ?o0a (by kernel_rfl) (by kernel_rfl) (by kernel_rfl) ?q0a ?y0a hHeld ?r0a
  case o0a => simp only [List.getElem?_toArray, List.getElem?_cons_zero]; rfl
  case q0a => exact fun _ _ _ h => h
  case y0a => (refine Or.inl ⟨rfl, ?_⟩; intro wq hq; obtain ⟨⟨a0, a1⟩, ⟨b0, b1⟩, c3⟩ := HS.out wq hq; go_simp; try with_reducible rfl)
  simp only [Act.put, List.setIfInBounds_toArray, List.set_cons_zero, List.set_cons_succ]
  refine wpAnyH_take (i := 1) (oi := ?p1a) (v := ?v1a) ?o1a (by kernel_rfl) (by kernel_rfl) (by kernel_rfl) ?q1a ?y1a hHeld ?r1a
  case o1a => simp only [List.getElem?_toArray, List.getElem?_cons_succ, List.getElem?_cons_zero]; rfl
  case q1a => exact fun _ _ _ h => h
  case y1a => (refine Or.inl ⟨rfl, ?_⟩; intro wq hq; obtain ⟨⟨a0, a1⟩, ⟨b0, b1⟩, c3⟩ := HS.out wq hq; go_simp; try with_reducible rfl)
  simp only [Act.put, List.setIfInBounds_toArray, List.set_cons_zero, List.set_cons_succ]
  refine wpAnyH_ready (rs := [2]) (by kernel_rfl) (by simp) ?_
  refine AllReadyH.cons (o := ?p2a) ?o2a ?s2a AllReadyH.nil
  case o2a => simp only [List.getElem?_toArray, List.getElem?_cons_succ, List.getElem?_cons_zero]; rfl
  intro K hK
  go_simp
  refine (exCmp _).mono ?_
  rintro e v2 ⟨rfl, hb⟩
  have B2 : Below W3.heap.size W3 v2 := hHeld.trans (hb.mono hHeld.size)
  clear hb
  refine hK.out _ _ B2 (fun hHeld => ?_)
  clear hK K
  refine wpAnyH_take (i := 3) (oi := ?p3a) (v := ?v3a) ?o3a (by kernel_rfl) (by kernel_rfl) (by kernel_rfl) ?q3a ?y3a hHeld ?r3a
  case o3a => simp only [List.getElem?_toArray, List.getElem?_cons_succ, List.getElem?_cons_zero]; rfl
  case q3a => exact fun _ _ _ h => h
  case y3a => (refine Or.inl ⟨rfl, ?_⟩; intro wq hq; obtain ⟨⟨a0, a1⟩, ⟨b0, b1⟩, c3⟩ := HS.out wq hq; go_simp; try with_reducible rfl)
  simp only [Act.put, List.setIfInBounds_toArray, List.set_cons_zero, List.set_cons_succ]
  refine wpAnyH_take (i := 4) (oi := ?p4a) (v := ?v4a) ?o4a (by kernel_rfl) (by kernel_rfl) (by kernel_rfl) ?q4a ?y4a hHeld ?r4a
  case o4a => simp only [List.getElem?_toArray, List.getElem?_cons_succ, List.getElem?_cons_zero]; rfl
  case q4a => exact fun _ _ _ h => h
  case y4a => (refine Or.inl ⟨rfl, ?_⟩; intro wq hq; obtain ⟨⟨a0, a1⟩, ⟨b0, b1⟩, c3⟩ := HS.out wq hq; go_simp; try with_reducible rfl)
  simp only [Act.put, List.setIfInBounds_toArray, List.set_cons_zero, List.set_cons_succ]
  refine wpAnyH_take (i := 5) (oi := ?p5a) (v := ?v5a) ?o5a (by kernel_rfl) (by kernel_rfl) (by kernel_rfl) ?q5a ?y5a hHeld ?r5a
  case o5a => simp only [List.getElem?_toArray, List.getElem?_cons_succ, List.getElem?_cons_zero]; rfl
  case q5a => exact fun _ _ _ h => h
  case y5a => (refine Or.inl ⟨rfl, ?_⟩; intro wq hq; obtain ⟨⟨a0, a1⟩, ⟨b0, b1⟩, c3⟩ := HS.out wq hq; go_simp; try with_reducible rfl)
  simp only [Act.put, List.setIfInBounds_toArray, List.set_cons_zero, List.set_cons_succ]
  refine wpAnyH_take (i := 7) (oi := ?p7a) (v := ?v7a) ?o7a (by kernel_rfl) (by kernel_rfl) (by kernel_rfl) ?q7a ?y7a hHeld ?r7a
  case o7a => simp only [List.getElem?_toArray, List.getElem?_cons_succ, List.getElem?_cons_zero]; rfl
  case q7a => exact fun _ _ _ h => h
  case y7a => (refine Or.inl ⟨rfl, ?_⟩; intro wq hq; obtain ⟨⟨a0, a1⟩, ⟨b0, b1⟩, c3⟩ := HS.out wq hq; go_simp; try with_reducible rfl)
  simp only [Act.put, List.setIfInBounds_toArray, List.set_cons_zero, List.set_cons_succ]
  refine wpAnyH_ready (rs := [6]) (by kernel_rfl) (by simp) ?_
  refine AllReadyH.cons (o := ?p6a) ?o6a ?s6a AllReadyH.nil
  case o6a => simp only [List.getElem?_toArray, List.getElem?_cons_succ, List.getElem?_cons_zero]; rfl
  intro K hK
  go_simp
  refine (exNext _).mono ?_
  rintro e v6 ⟨rfl, hb⟩
  have B6 : Below W3.heap.size W3 v6 := hHeld.trans (hb.mono hHeld.size)
  clear hb
  refine hK.out _ _ B6 (fun hHeld => ?_)
  clear hK K
  refine wpAnyH_take (i := 8) (oi := ?p8a) (v := ?v8a) ?o8a (by kernel_rfl) (by kernel_rfl) (by kernel_rfl) ?q8a ?y8a hHeld ?r8a
  case o8a => simp only [List.getElem?_toArray, List.getElem?_cons_succ, List.getElem?_cons_zero]; rfl
  case q8a => exact fun _ _ _ h => h
  case y8a => (refine Or.inl ⟨rfl, ?_⟩; intro wq hq; obtain ⟨⟨a0, a1⟩, ⟨b0, b1⟩, c3⟩ := HS.out wq hq; go_simp; try with_reducible rfl)
  simp only [Act.put, List.setIfInBounds_toArray, List.set_cons_zero, List.set_cons_succ]
  refine wpAnyH_take (i := 9) (oi := ?p9a) (v := ?v9a) ?o9a (by kernel_rfl) (by kernel_rfl) (by kernel_rfl) ?q9a ?y9a hHeld ?r9a
  case o9a => simp only [List.getElem?_toArray, List.getElem?_cons_succ, List.getElem?_cons_zero]; rfl
  case q9a => exact fun _ _ _ h => h
  case y9a => (refine Or.inl ⟨rfl, ?_⟩; intro wq hq; obtain ⟨⟨a0, a1⟩, ⟨b0, b1⟩, c3⟩ := HS.out wq hq; go_simp; try with_reducible rfl)
  simp only [Act.put, List.setIfInBounds_toArray, List.set_cons_zero, List.set_cons_succ]
  refine wpAnyH_take (i := 10) (oi := ?p10a) (v := ?v10a) ?o10a (by kernel_rfl) (by kernel_rfl) (by kernel_rfl) ?q10a ?y10a hHeld ?r10a
  case o10a => simp only [List.getElem?_toArray, List.getElem?_cons_succ, List.getElem?_cons_zero]; rfl
  case q10a => exact fun _ _ _ h => h
  case y10a => (refine Or.inl ⟨rfl, ?_⟩; intro wq hq; obtain ⟨⟨a0, a1⟩, ⟨b0, b1⟩, c3⟩ := HS.out wq hq; go_simp; try with_reducible rfl)
  simp only [Act.put, List.setIfInBounds_toArray, List.set_cons_zero, List.set_cons_succ]
  refine wpAnyH_take (i := 11) (oi := ?p11a) (v := ?v11a) ?o11a (by kernel_rfl) (by kernel_rfl) (by kernel_rfl) ?q11a ?y11a hHeld ?r11a
  case o11a => simp only [List.getElem?_toArray, List.getElem?_cons_succ, List.getElem?_cons_zero]; rfl
  case q11a => exact fun _ _ _ h => h
  case y11a => (refine Or.inl ⟨rfl, ?_⟩; intro wq hq; obtain ⟨⟨a0, a1⟩, ⟨b0, b1⟩, c3⟩ := HS.out wq hq; go_simp; try with_reducible rfl)
  simp only [Act.put, List.setIfInBounds_toArray, List.set_cons_zero, List.set_cons_succ]
  refine wpAnyH_take (i := 12) (oi := ?p12a) (v := ?v12a) ?o12a (by kernel_rfl) (by kernel_rfl) (by kernel_rfl) ?q12a ?y12a hHeld ?r12a
  case o12a => simp only [List.getElem?_toArray, List.getElem?_cons_succ, List.getElem?_cons_zero]; rfl
  case q12a => exact fun _ _ _ h => h
  case y12a => (refine Or.inl ⟨rfl, ?_⟩; intro wq hq; obtain ⟨⟨a0, a1⟩, ⟨b0, b1⟩, c3⟩ := HS.out wq hq; go_simp; try with_reducible rfl)
  simp only [Act.put, List.setIfInBounds_toArray, List.set_cons_zero, List.set_cons_succ]
  refine wpAnyH_take (i := 15) (oi := ?p15a) (v := ?v15a) ?o15a (by kernel_rfl) (by kernel_rfl) (by kernel_rfl) ?q15a ?y15a hHeld ?r15a
  case o15a => simp only [List.getElem?_toArray, List.getElem?_cons_succ, List.getElem?_cons_zero]; rfl
  case q15a => exact fun _ _ _ h => h
  case y15a => (refine Or.inl ⟨rfl, ?_⟩; intro wq hq; obtain ⟨⟨a0, a1⟩, ⟨b0, b1⟩, c3⟩ := HS.out wq hq; go_simp; try with_reducible rfl)
  simp only [Act.put, List.setIfInBounds_toArray, List.set_cons_zero, List.set_cons_succ]
  refine wpAnyH_ready (rs := [13]) (by kernel_rfl) (by simp) ?_
  refine AllReadyH.cons (o := ?p13a) ?o13a ?s13a AllReadyH.nil
  case o13a => simp only [List.getElem?_toArray, List.getElem?_cons_succ, List.getElem?_cons_zero]; rfl
  intro K hK
  go_simp
  
  refine hK.out _ _ (hHeld.alloc hHeld.size _) (fun hHeld => ?_)
  clear hK K
  refine wpAnyH_ready (rs := [14]) (by kernel_rfl) (by simp) ?_
  refine AllReadyH.cons (o := ?p14a) ?o14a ?s14a AllReadyH.nil
  case o14a => simp only [List.getElem?_toArray, List.getElem?_cons_succ, List.getElem?_cons_zero]; rfl
  intro K hK
  go_simp
  refine (exMax _ _ (heap_alloc_last _ _)).mono ?_
  rintro e v14 ⟨rfl, hb⟩
  have B14 : Below W3.heap.size W3 v14 := hHeld.trans (hb.mono hHeld.size)
  clear hb
  refine hK.out _ _ B14 (fun hHeld => ?_)
  clear hK K
  refine wpAnyH_take (i := 16) (oi := ?p16a) (v := ?v16a) ?o16a (by kernel_rfl) (by kernel_rfl) (by kernel_rfl) ?q16a ?y16a hHeld ?r16a
  case o16a => simp only [List.getElem?_toArray, List.getElem?_cons_succ, List.getElem?_cons_zero]; rfl
  case q16a => exact fun _ _ _ h => h
  case y16a => (refine Or.inl ⟨rfl, ?_⟩; intro wq hq; obtain ⟨⟨a0, a1⟩, ⟨b0, b1⟩, c3⟩ := HS.out wq hq; go_simp; try with_reducible rfl)
  simp only [Act.put, List.setIfInBounds_toArray, List.set_cons_zero, List.set_cons_succ]
  refine wpAnyH_take (i := 17) (oi := ?p17a) (v := ?v17a) ?o17a (by kernel_rfl) (by kernel_rfl) (by kernel_rfl) ?q17a ?y17a hHeld ?r17a
  case o17a => simp only [List.getElem?_toArray, List.getElem?_cons_succ, List.getElem?_cons_zero]; rfl
  case q17a => exact fun _ _ _ h => h
  case y17a => (refine Or.inl ⟨rfl, ?_⟩; intro wq hq; obtain ⟨⟨a0, a1⟩, ⟨b0, b1⟩, c3⟩ := HS.out wq hq; go_simp; try with_reducible rfl)
  simp only [Act.put, List.setIfInBounds_toArray, List.set_cons_zero, List.set_cons_succ]
  refine wpAnyH_take (i := 18) (oi := ?p18a) (v := ?v18a) ?o18a (by kernel_rfl) (by kernel_rfl) (by kernel_rfl) ?q18a ?y18a hHeld ?r18a
  case o18a => simp only [List.getElem?_toArray, List.getElem?_cons_succ, List.getElem?_cons_zero]; rfl
  case q18a => exact fun _ _ _ h => h
  case y18a => (refine Or.inl ⟨rfl, ?_⟩; intro wq hq; obtain ⟨⟨a0, a1⟩, ⟨b0, b1⟩, c3⟩ := HS.out wq hq; go_simp; try with_reducible rfl)
  simp only [Act.put, List.setIfInBounds_toArray, List.set_cons_zero, List.set_cons_succ]
  refine wpAnyH_ready (rs := [19]) (by kernel_rfl) (by simp) ?_
  refine AllReadyH.cons (o := ?p19a) ?o19a ?s19a AllReadyH.nil
  case o19a => simp only [List.getElem?_toArray, List.getElem?_cons_succ, List.getElem?_cons_zero]; rfl
  intro K hK
  go_simp
  refine (exQ5 _).mono ?_
  rintro e v19 ⟨rfl, rfl⟩
  refine hK.out _ _ hHeld (fun hHeld => ?_)
  clear hK K
  refine wpAnyH_take (i := 20) (oi := ?p20a) (v := ?v20a) ?o20a (by kernel_rfl) (by kernel_rfl) (by kernel_rfl) ?q20a ?y20a hHeld ?r20a
  case o20a => simp only [List.getElem?_toArray, List.getElem?_cons_succ, List.getElem?_cons_zero]; rfl
  case q20a => exact fun _ _ _ h => h
  case y20a => (refine Or.inl ⟨rfl, ?_⟩; intro wq hq; obtain ⟨⟨a0, a1⟩, ⟨b0, b1⟩, c3⟩ := HS.out wq hq; go_simp; try with_reducible rfl)
  simp only [Act.put, List.setIfInBounds_toArray, List.set_cons_zero, List.set_cons_succ]
  refine wpAnyH_take (i := 21) (oi := ?p21a) (v := ?v21a) ?o21a (by kernel_rfl) (by kernel_rfl) (by kernel_rfl) ?q21a ?y21a hHeld ?r21a
  case o21a => simp only [List.getElem?_toArray, List.getElem?_cons_succ, List.getElem?_cons_zero]; rfl
  case q21a => exact fun _ _ _ h => h
  case y21a => (refine Or.inl ⟨rfl, ?_⟩; intro wq hq; obtain ⟨⟨a0, a1⟩, ⟨b0, b1⟩, c3⟩ := HS.out wq hq; go_simp; try with_reducible rfl)
  simp only [Act.put, List.setIfInBounds_toArray, List.set_cons_zero, List.set_cons_succ]
  refine wpAnyH_take (i := 22) (oi := ?p22a) (v := ?v22a) ?o22a (by kernel_rfl) (by kernel_rfl) (by kernel_rfl) ?q22a ?y22a hHeld ?r22a
  case o22a => simp only [List.getElem?_toArray, List.getElem?_cons_succ, List.getElem?_cons_zero]; rfl
  case q22a => exact fun _ _ _ h => h
  case y22a => (refine Or.inl ⟨rfl, ?_⟩; intro wq hq; obtain ⟨⟨a0, a1⟩, ⟨b0, b1⟩, c3⟩ := HS.out wq hq; go_simp; try with_reducible rfl)
  simp only [Act.put, List.setIfInBounds_toArray, List.set_cons_zero, List.set_cons_succ]
  refine wpAnyH_ready (rs := [23]) (by kernel_rfl) (by simp) ?_
  refine AllReadyH.cons (o := ?p23a) ?o23a ?s23a AllReadyH.nil
  case o23a => simp only [List.getElem?_toArray, List.getElem?_cons_succ, List.getElem?_cons_zero]; rfl
  intro K hK
  go_simp
  refine (exQ8 _).mono ?_
  rintro e v23 ⟨rfl, rfl⟩
  refine hK.out _ _ hHeld (fun hHeld => ?_)
  clear hK K
  refine wpAnyH_take (i := 24) (oi := ?p24a) (v := ?v24a) ?o24a (by kernel_rfl) (by kernel_rfl) (by kernel_rfl) ?q24a ?y24a hHeld ?r24a
  case o24a => simp only [List.getElem?_toArray, List.getElem?_cons_succ, List.getElem?_cons_zero]; rfl
  case q24a => exact fun _ _ _ h => h
  case y24a => (refine Or.inl ⟨rfl, ?_⟩; intro wq hq; obtain ⟨⟨a0, a1⟩, ⟨b0, b1⟩, c3⟩ := HS.out wq hq; go_simp; try with_reducible rfl)
  simp only [Act.put, List.setIfInBounds_toArray, List.set_cons_zero, List.set_cons_succ]
  refine wpAnyH_take (i := 25) (oi := ?p25a) (v := ?v25a) ?o25a (by kernel_rfl) (by kernel_rfl) (by kernel_rfl) ?q25a ?y25a hHeld ?r25a
  case o25a => simp only [List.getElem?_toArray, List.getElem?_cons_succ, List.getElem?_cons_zero]; rfl
  case q25a => exact fun _ _ _ h => h
  case y25a => (refine Or.inl ⟨rfl, ?_⟩; intro wq hq; obtain ⟨⟨a0, a1⟩, ⟨b0, b1⟩, c3⟩ := HS.out wq hq; go_simp; try with_reducible rfl)
  simp only [Act.put, List.setIfInBounds_toArray, List.set_cons_zero, List.set_cons_succ]
  refine wpAnyH_take (i := 26) (oi := ?p26a) (v := ?v26a) ?o26a (by kernel_rfl) (by kernel_rfl) (by kernel_rfl) ?q26a ?y26a hHeld ?r26a
  case o26a => simp only [List.getElem?_toArray, List.getElem?_cons_succ, List.getElem?_cons_zero]; rfl
  case q26a => exact fun _ _ _ h => h
  case y26a => (refine Or.inl ⟨rfl, ?_⟩; intro wq hq; obtain ⟨⟨a0, a1⟩, ⟨b0, b1⟩, c3⟩ := HS.out wq hq; go_simp; try with_reducible rfl)
  simp only [Act.put, List.setIfInBounds_toArray, List.set_cons_zero, List.set_cons_succ]
  refine wpAnyH_take (i := 27) (oi := ?p27a) (v := ?v27a) ?o27a (by kernel_rfl) (by kernel_rfl) (by kernel_rfl) ?q27a ?y27a hHeld ?r27a
  case o27a => simp only [List.getElem?_toArray, List.getElem?_cons_succ, List.getElem?_cons_zero]; rfl
  case q27a => exact fun _ _ _ h => h
  case y27a => (refine Or.inl ⟨rfl, ?_⟩; intro wq hq; obtain ⟨⟨a0, a1⟩, ⟨b0, b1⟩, c3⟩ := HS.out wq hq; go_simp; try with_reducible rfl)
  simp only [Act.put, List.setIfInBounds_toArray, List.set_cons_zero, List.set_cons_succ]
  refine wpAnyH_take (i := 28) (oi := ?p28a) (v := ?v28a) ?o28a (by kernel_rfl) (by kernel_rfl) (by kernel_rfl) ?q28a ?y28a hHeld ?r28a
  case o28a => simp only [List.getElem?_toArray, List.getElem?_cons_succ, List.getElem?_cons_zero]; rfl
  case q28a => exact fun _ _ _ h => h
  case y28a => (refine Or.inl ⟨rfl, ?_⟩; intro wq hq; obtain ⟨⟨a0, a1⟩, ⟨b0, b1⟩, c3⟩ := HS.out wq hq; go_simp; try with_reducible rfl)
  simp only [Act.put, List.setIfInBounds_toArray, List.set_cons_zero, List.set_cons_succ]
  refine wpAnyH_take (i := 29) (oi := ?p29a) (v := ?v29a) ?o29a (by kernel_rfl) (by kernel_rfl) (by kernel_rfl) ?q29a ?y29a hHeld ?r29a
  case o29a => simp only [List.getElem?_toArray, List.getElem?_cons_succ, List.getElem?_cons_zero]; rfl
  case q29a => exact fun _ _ _ h => h
  case y29a => (refine Or.inl ⟨rfl, ?_⟩; intro wq hq; obtain ⟨⟨a0, a1⟩, ⟨b0, b1⟩, c3⟩ := HS.out wq hq; go_simp; try with_reducible rfl)
  simp only [Act.put, List.setIfInBounds_toArray, List.set_cons_zero, List.set_cons_succ]
  refine wpAnyH_take (i := 30) (oi := ?p30a) (v := ?v30a) ?o30a (by kernel_rfl) (by kernel_rfl) (by kernel_rfl) ?q30a ?y30a hHeld ?r30a
  case o30a => simp only [List.getElem?_toArray, List.getElem?_cons_succ, List.getElem?_cons_zero]; rfl
  case q30a => exact fun _ _ _ h => h
  case y30a => (refine Or.inl ⟨rfl, ?_⟩; intro wq hq; obtain ⟨⟨a0, a1⟩, ⟨b0, b1⟩, c3⟩ := HS.out wq hq; go_simp; try with_reducible rfl)
  simp only [Act.put, List.setIfInBounds_toArray, List.set_cons_zero, List.set_cons_succ]
  refine wpAnyH_take (i := 31) (oi := ?p31a) (v := ?v31a) ?o31a (by kernel_rfl) (by kernel_rfl) (by kernel_rfl) ?q31a ?y31a hHeld ?r31a
  case o31a => simp only [List.getElem?_toArray, List.getElem?_cons_succ, List.getElem?_cons_zero]; rfl
  case q31a => exact fun _ _ _ h => h
  case y31a => (refine Or.inl ⟨rfl, ?_⟩; intro wq hq; obtain ⟨⟨a0, a1⟩, ⟨b0, b1⟩, c3⟩ := HS.out wq hq; go_simp; try with_reducible rfl)
  simp only [Act.put, List.setIfInBounds_toArray, List.set_cons_zero, List.set_cons_succ]
  refine wpAnyH_take (i := 32) (oi := ?p32a) (v := ?v32a) ?o32a (by kernel_rfl) (by kernel_rfl) (by kernel_rfl) ?q32a ?y32a hHeld ?r32a
  case o32a => simp only [List.getElem?_toArray, List.getElem?_cons_succ, List.getElem?_cons_zero]; rfl
  case q32a => exact fun _ _ _ h => h
  case y32a => (refine Or.inl ⟨rfl, ?_⟩; intro wq hq; obtain ⟨⟨a0, a1⟩, ⟨b0, b1⟩, c3⟩ := HS.out wq hq; go_simp; try with_reducible rfl)
  simp only [Act.put, List.setIfInBounds_toArray, List.set_cons_zero, List.set_cons_succ]
  refine wpAnyH_take (i := 33) (oi := ?p33a) (v := ?v33a) ?o33a (by kernel_rfl) (by kernel_rfl) (by kernel_rfl) ?q33a ?y33a hHeld ?r33a
  case o33a => simp only [List.getElem?_toArray, List.getElem?_cons_succ, List.getElem?_cons_zero]; rfl
  case q33a => exact fun _ _ _ h => h
  case y33a => (refine Or.inl ⟨rfl, ?_⟩; intro wq hq; obtain ⟨⟨a0, a1⟩, ⟨b0, b1⟩, c3⟩ := HS.out wq hq; go_simp; try with_reducible rfl)
  simp only [Act.put, List.setIfInBounds_toArray, List.set_cons_zero, List.set_cons_succ]
  refine wpAnyH_take (i := 34) (oi := ?p34a) (v := ?v34a) ?o34a (by kernel_rfl) (by kernel_rfl) (by kernel_rfl) ?q34a ?y34a hHeld ?r34a
  case o34a => simp only [List.getElem?_toArray, List.getElem?_cons_succ, List.getElem?_cons_zero]; rfl
  case q34a => exact fun _ _ _ h => h
  case y34a => (refine Or.inl ⟨rfl, ?_⟩; intro wq hq; obtain ⟨⟨a0, a1⟩, ⟨b0, b1⟩, c3⟩ := HS.out wq hq; go_simp; try with_reducible rfl)
  simp only [Act.put, List.setIfInBounds_toArray, List.set_cons_zero, List.set_cons_succ]
  refine wpAnyH_take (i := 35) (oi := ?p35a) (v := ?v35a) ?o35a (by kernel_rfl) (by kernel_rfl) (by kernel_rfl) ?q35a ?y35a hHeld ?r35a
  case o35a => simp only [List.getElem?_toArray, List.getElem?_cons_succ, List.getElem?_cons_zero]; rfl
  case q35a => exact fun _ _ _ h => h
  case y35a => (refine Or.inl ⟨rfl, ?_⟩; intro wq hq; obtain ⟨⟨a0, a1⟩, ⟨b0, b1⟩, c3⟩ := HS.out wq hq; go_simp; try with_reducible rfl)
  simp only [Act.put, List.setIfInBounds_toArray, List.set_cons_zero, List.set_cons_succ]
  refine wpAnyH_ready (rs := [36]) (by kernel_rfl) (by simp) ?_
  refine AllReadyH.cons (o := ?p36a) ?o36a ?s36a AllReadyH.nil
  case o36a => simp only [List.getElem?_toArray, List.getElem?_cons_succ, List.getElem?_cons_zero]; rfl
  intro K hK
  go_simp
  refine (exVa _).mono ?_
  rintro e v36 ⟨rfl, hb⟩
  have B36 : Below W3.heap.size W3 v36 := hHeld.trans (hb.mono hHeld.size)
  clear hb
  refine hK.out _ _ B36 (fun hHeld => ?_)
  clear hK K
  refine wpAnyH_take (i := 37) (oi := ?p37a) (v := ?v37a) ?o37a (by kernel_rfl) (by kernel_rfl) (by kernel_rfl) ?q37a ?y37a hHeld ?r37a
  case o37a => simp only [List.getElem?_toArray, List.getElem?_cons_succ, List.getElem?_cons_zero]; rfl
  case q37a => exact fun _ _ _ h => h
  case y37a => (refine Or.inl ⟨rfl, ?_⟩; intro wq hq; obtain ⟨⟨a0, a1⟩, ⟨b0, b1⟩, c3⟩ := HS.out wq hq; go_simp; try with_reducible rfl)
  simp only [Act.put, List.setIfInBounds_toArray, List.set_cons_zero, List.set_cons_succ]
  refine wpAnyH_take (i := 38) (oi := ?p38a) (v := ?v38a) ?o38a (by kernel_rfl) (by kernel_rfl) (by kernel_rfl) ?q38a ?y38a hHeld ?r38a
  case o38a => simp only [List.getElem?_toArray, List.getElem?_cons_succ, List.getElem?_cons_zero]; rfl
  case q38a => exact fun _ _ _ h => h
  case y38a => (refine Or.inl ⟨rfl, ?_⟩; intro wq hq; obtain ⟨⟨a0, a1⟩, ⟨b0, b1⟩, c3⟩ := HS.out wq hq; go_simp; try with_reducible rfl)
  simp only [Act.put, List.setIfInBounds_toArray, List.set_cons_zero, List.set_cons_succ]
  refine wpAnyH_take (i := 39) (oi := ?p39a) (v := ?v39a) ?o39a (by kernel_rfl) (by kernel_rfl) (by kernel_rfl) ?q39a ?y39a hHeld ?r39a
  case o39a => simp only [List.getElem?_toArray, List.getElem?_cons_succ, List.getElem?_cons_zero]; rfl
  case q39a => exact fun _ _ _ h => h
  case y39a => (refine Or.inl ⟨rfl, ?_⟩; intro wq hq; obtain ⟨⟨a0, a1⟩, ⟨b0, b1⟩, c3⟩ := HS.out wq hq; go_simp; try with_reducible rfl)
  simp only [Act.put, List.setIfInBounds_toArray, List.set_cons_zero, List.set_cons_succ]
  refine wpAnyH_ready (rs := [40]) (by kernel_rfl) (by simp) ?_
  refine AllReadyH.cons (o := ?p40a) ?o40a ?s40a AllReadyH.nil
  case o40a => simp only [List.getElem?_toArray, List.getElem?_cons_succ, List.getElem?_cons_zero]; rfl
  intro K hK
  go_simp
  refine (exVb _).mono ?_
  rintro e v40 ⟨rfl, hb⟩
  have B40 : Below W3.heap.size W3 v40 := hHeld.trans (hb.mono hHeld.size)
  clear hb
  refine hK.out _ _ B40 (fun hHeld => ?_)
  clear hK K
  refine wpAnyH_take (i := 41) (oi := ?p41a) (v := ?v41a) ?o41a (by kernel_rfl) (by kernel_rfl) (by kernel_rfl) ?q41a ?y41a hHeld ?r41a
  case o41a => simp only [List.getElem?_toArray, List.getElem?_cons_succ, List.getElem?_cons_zero]; rfl
  case q41a => exact fun _ _ _ h => h
  case y41a => (refine Or.inl ⟨rfl, ?_⟩; intro wq hq; obtain ⟨⟨a0, a1⟩, ⟨b0, b1⟩, c3⟩ := HS.out wq hq; go_simp; try with_reducible rfl)
  simp only [Act.put, List.setIfInBounds_toArray, List.set_cons_zero, List.set_cons_succ]
  refine wpAnyH_take (i := 42) (oi := ?p42a) (v := ?v42a) ?o42a (by kernel_rfl) (by kernel_rfl) (by kernel_rfl) ?q42a ?y42a hHeld ?r42a
  case o42a => simp only [List.getElem?_toArray, List.getElem?_cons_succ, List.getElem?_cons_zero]; rfl
  case q42a => exact fun _ _ _ h => h
  case y42a => (refine Or.inl ⟨rfl, ?_⟩; intro wq hq; obtain ⟨⟨a0, a1⟩, ⟨b0, b1⟩, c3⟩ := HS.out wq hq; go_simp; try with_reducible rfl)
  simp only [Act.put, List.setIfInBounds_toArray, List.set_cons_zero, List.set_cons_succ]
  refine wpAnyH_take (i := 43) (oi := ?p43a) (v := ?v43a) ?o43a (by kernel_rfl) (by kernel_rfl) (by kernel_rfl) ?q43a ?y43a hHeld ?r43a
  case o43a => simp only [List.getElem?_toArray, List.getElem?_cons_succ, List.getElem?_cons_zero]; rfl
  case q43a => exact fun _ _ _ h => h
  case y43a => (refine Or.inl ⟨rfl, ?_⟩; intro wq hq; obtain ⟨⟨a0, a1⟩, ⟨b0, b1⟩, c3⟩ := HS.out wq hq; go_simp; try with_reducible rfl)
  simp only [Act.put, List.setIfInBounds_toArray, List.set_cons_zero]
  refine wpAnyH_done (by kernel_rfl) ?_ _
  go_wp2
  go_ret
  exact ⟨rfl, bel_up HBW.out hHeld (Nat.le_refl _)⟩
end Go.Proofs.Ytkohbjpinoonmaa
