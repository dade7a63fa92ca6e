/-
  Which of two is less, whether one may be, what comes next, how many are a quorum: the program and the document tell the same.
-/
import Derived.Test.YtkohbjpinoonmaaH
namespace Go.Proofs.Ytkohbjpinoonmaa
open Go.RowKit
set_option linter.unusedVariables false
open M (E V)

set_option maxRecDepth 100000 in
set_option maxHeartbeats 2000000 in
theorem cmps_walk (x y : E) (n : Int) (w : World) : Calls Try.prog 3 #[.agg #[.int .i64 x.i, .int .i64 x.t], .agg #[.int .i64 y.i, .int .i64 y.t], .int .i64 n] w fun e w' => e = .returned (.bool true) ∧ Below w.heap.size w w' := by
  obtain ⟨W1, HW1⟩ : ∃ W1, Hid ((w.alloc (.cells #[.int .i64 x.i, .int .i64 x.t] 23)).alloc (.cells #[.int .i64 y.i, .int .i64 y.t] 23) = W1) := ⟨_, Hid_of rfl⟩
  have HB1 : Hid (Below w.heap.size w W1) := by rw [← HW1.out]; exact bel_up (bel1 w _) (bel1 _ _) (Nat.le_refl _)
  have HS : Hid (∀ w', Below W1.heap.size W1 w' → (w'.cell? ⟨w.heap.size, 0, none⟩ = some (.int .i64 x.i) ∧ w'.cell? ⟨w.heap.size, 1, none⟩ = some (.int .i64 x.t)) ∧ (w'.cell? ⟨w.heap.size + 1, 0, none⟩ = some (.int .i64 y.i) ∧ w'.cell? ⟨w.heap.size + 1, 1, none⟩ = some (.int .i64 y.t))) := fun w' hw' => by
    have ha1 : W1.heap[w.heap.size]? = some (.cells #[.int .i64 x.i, .int .i64 x.t] 23 (0, 0)) := by rw [← HW1.out]; exact heap_alloc2_old w _ _
    have hb1 : W1.heap[w.heap.size + 1]? = some (.cells #[.int .i64 y.i, .int .i64 y.t] 23 (0, 0)) := by rw [← HW1.out]; exact heap_alloc2_new w _ _
    exact ⟨(row2 (bel_row ha1 hw')).1, (row2 (bel_row hb1 hw')).1⟩
  have HC := Hid_of (cmp_any x y)
  have HC1 := Hid_of (rcmp_any x y)
  generalize M.cmpE x y = c at *
  have HV := Hid_of (valid_any x)
  have HV1 := Hid_of (rvalid_any x)
  generalize M.vld x = v at *
  have HN := Hid_of (next_any x n)
  have HN1 := Hid_of (rnext_any x n)
  generalize M.nxt x n = z at *
  have HQ := Hid_of (quorum_any n)
  have HQ1 := Hid_of (rquorum_any n)
  generalize M.quo n = q at *
  have e1 : ∀ W, (binOp .eql 23 (.agg #[.int .i64 z.i, .int .i64 z.t]) (.agg #[.int .i64 z.i, .int .i64 z.t])).run Try.prog W = .ok (.bool true) W := fun W => by rw [eq23]; simp
  go_enter Try.func3, Try.ntmps3
  go_upto_region 1 with fail
  rw [HW1.out]
  clear HW1
  refine wp_region_held_drew (S := fun wq => Below (W1).heap.size (W1) wq) (by kernel_rfl) (Below.drew (Below.refl _ _)) (fun hHeld => ?_)
  refine wpAnyH_take (i := 0) (oi := ?p0a) (v := ?v0a) ?o0a (by kernel_rfl) (by kernel_rfl) (by kernel_rfl) ?q0a ?y0a hHeld ?r0a
  case o0a => simp only [List.getElem?_toArray, List.getElem?_cons_zero]; rfl
  case q0a => exact fun _ _ _ h => h
  case y0a => (refine Or.inl ⟨rfl, ?_⟩; intro wq hq; obtain ⟨⟨a0, a1⟩, ⟨b0, b1⟩⟩ := HS.out wq hq; go_simp; try with_reducible rfl)
  simp only [Act.put, List.setIfInBounds_toArray, List.set_cons_zero, List.set_cons_succ]
  refine wpAnyH_take (i := 1) (oi := ?p1a) (v := ?v1a) ?o1a (by kernel_rfl) (by kernel_rfl) (by kernel_rfl) ?q1a ?y1a hHeld ?r1a
  case o1a => simp only [List.getElem?_toArray, List.getElem?_cons_succ, List.getElem?_cons_zero]; rfl
  case q1a => exact fun _ _ _ h => h
  case y1a => (refine Or.inl ⟨rfl, ?_⟩; intro wq hq; obtain ⟨⟨a0, a1⟩, ⟨b0, b1⟩⟩ := HS.out wq hq; go_simp; try with_reducible rfl)
  simp only [Act.put, List.setIfInBounds_toArray, List.set_cons_zero, List.set_cons_succ]
  refine wpAnyH_take (i := 3) (oi := ?p3a) (v := ?v3a) ?o3a (by kernel_rfl) (by kernel_rfl) (by kernel_rfl) ?q3a ?y3a hHeld ?r3a
  case o3a => simp only [List.getElem?_toArray, List.getElem?_cons_succ, List.getElem?_cons_zero]; rfl
  case q3a => exact fun _ _ _ h => h
  case y3a => (refine Or.inl ⟨rfl, ?_⟩; intro wq hq; obtain ⟨⟨a0, a1⟩, ⟨b0, b1⟩⟩ := HS.out wq hq; go_simp; try with_reducible rfl)
  simp only [Act.put, List.setIfInBounds_toArray, List.set_cons_zero, List.set_cons_succ]
  refine wpAnyH_take (i := 4) (oi := ?p4a) (v := ?v4a) ?o4a (by kernel_rfl) (by kernel_rfl) (by kernel_rfl) ?q4a ?y4a hHeld ?r4a
  case o4a => simp only [List.getElem?_toArray, List.getElem?_cons_succ, List.getElem?_cons_zero]; rfl
  case q4a => exact fun _ _ _ h => h
  case y4a => (refine Or.inl ⟨rfl, ?_⟩; intro wq hq; obtain ⟨⟨a0, a1⟩, ⟨b0, b1⟩⟩ := HS.out wq hq; go_simp; try with_reducible rfl)
  simp only [Act.put, List.setIfInBounds_toArray, List.set_cons_zero, List.set_cons_succ]
  refine wpAnyH_ready (rs := [2]) (by kernel_rfl) (by simp) ?_
  refine AllReadyH.cons (o := ?p2a) ?o2a ?s2a AllReadyH.nil
  case o2a => simp only [List.getElem?_toArray, List.getElem?_cons_succ, List.getElem?_cons_zero]; rfl
  intro K hK
  go_simp
  refine (HC.out _).mono ?_
  rintro e v2 ⟨rfl, hb⟩
  have B2 : Below W1.heap.size W1 v2 := hHeld.trans (hb.mono hHeld.size)
  clear hb
  refine hK.out _ _ B2 (fun hHeld => ?_)
  clear hK K
  refine wpAnyH_ready (rs := [5]) (by kernel_rfl) (by simp) ?_
  refine AllReadyH.cons (o := ?p5a) ?o5a ?s5a AllReadyH.nil
  case o5a => simp only [List.getElem?_toArray, List.getElem?_cons_succ, List.getElem?_cons_zero]; rfl
  intro K hK
  go_simp
  refine (HC1.out _).mono ?_
  rintro e v5 ⟨rfl, hb⟩
  have B5 : Below W1.heap.size W1 v5 := hHeld.trans (hb.mono hHeld.size)
  clear hb
  refine hK.out _ _ B5 (fun hHeld => ?_)
  clear hK K
  refine wpAnyH_take (i := 6) (oi := ?p6a) (v := ?v6a) ?o6a (by kernel_rfl) (by kernel_rfl) (by kernel_rfl) ?q6a ?y6a hHeld ?r6a
  case o6a => simp only [List.getElem?_toArray, List.getElem?_cons_succ, List.getElem?_cons_zero]; rfl
  case q6a => exact fun _ _ _ h => h
  case y6a => (refine Or.inl ⟨rfl, ?_⟩; intro wq hq; obtain ⟨⟨a0, a1⟩, ⟨b0, b1⟩⟩ := HS.out wq hq; go_simp; try with_reducible rfl)
  simp only [Act.put, List.setIfInBounds_toArray, List.set_cons_zero, List.set_cons_succ]
  refine wpAnyH_take (i := 7) (oi := ?p7a) (v := ?v7a) ?o7a (by kernel_rfl) (by kernel_rfl) (by kernel_rfl) ?q7a ?y7a hHeld ?r7a
  case o7a => simp only [List.getElem?_toArray, List.getElem?_cons_succ, List.getElem?_cons_zero]; rfl
  case q7a => exact fun _ _ _ h => h
  case y7a => (refine Or.inl ⟨rfl, ?_⟩; intro wq hq; obtain ⟨⟨a0, a1⟩, ⟨b0, b1⟩⟩ := HS.out wq hq; go_simp; try with_reducible rfl)
  simp only [Act.put, List.setIfInBounds_toArray, List.set_cons_zero, List.set_cons_succ]
  refine wpAnyH_take (i := 8) (oi := ?p8a) (v := ?v8a) ?o8a (by kernel_rfl) (by kernel_rfl) (by kernel_rfl) ?q8a ?y8a hHeld ?r8a
  case o8a => simp only [List.getElem?_toArray, List.getElem?_cons_succ, List.getElem?_cons_zero]; rfl
  case q8a => exact fun _ _ _ h => h
  case y8a => (refine Or.inl ⟨rfl, ?_⟩; intro wq hq; obtain ⟨⟨a0, a1⟩, ⟨b0, b1⟩⟩ := HS.out wq hq; go_simp; try with_reducible rfl)
  simp only [Act.put, List.setIfInBounds_toArray, List.set_cons_zero, List.set_cons_succ]
  refine wpAnyH_take (i := 10) (oi := ?p10a) (v := ?v10a) ?o10a (by kernel_rfl) (by kernel_rfl) (by kernel_rfl) ?q10a ?y10a hHeld ?r10a
  case o10a => simp only [List.getElem?_toArray, List.getElem?_cons_succ, List.getElem?_cons_zero]; rfl
  case q10a => exact fun _ _ _ h => h
  case y10a => (refine Or.inl ⟨rfl, ?_⟩; intro wq hq; obtain ⟨⟨a0, a1⟩, ⟨b0, b1⟩⟩ := HS.out wq hq; go_simp; try with_reducible rfl)
  simp only [Act.put, List.setIfInBounds_toArray, List.set_cons_zero, List.set_cons_succ]
  refine wpAnyH_ready (rs := [9]) (by kernel_rfl) (by simp) ?_
  refine AllReadyH.cons (o := ?p9a) ?o9a ?s9a AllReadyH.nil
  case o9a => simp only [List.getElem?_toArray, List.getElem?_cons_succ, List.getElem?_cons_zero]; rfl
  intro K hK
  go_simp
  refine (HV.out _).mono ?_
  rintro e v9 ⟨rfl, hb⟩
  have B9 : Below W1.heap.size W1 v9 := hHeld.trans (hb.mono hHeld.size)
  clear hb
  refine hK.out _ _ B9 (fun hHeld => ?_)
  clear hK K
  refine wpAnyH_ready (rs := [11]) (by kernel_rfl) (by simp) ?_
  refine AllReadyH.cons (o := ?p11a) ?o11a ?s11a AllReadyH.nil
  case o11a => simp only [List.getElem?_toArray, List.getElem?_cons_succ, List.getElem?_cons_zero]; rfl
  intro K hK
  go_simp
  refine (HV1.out _).mono ?_
  rintro e v11 ⟨rfl, hb⟩
  have B11 : Below W1.heap.size W1 v11 := hHeld.trans (hb.mono hHeld.size)
  clear hb
  refine hK.out _ _ B11 (fun hHeld => ?_)
  clear hK K
  refine wpAnyH_take (i := 12) (oi := ?p12a) (v := ?v12a) ?o12a (by kernel_rfl) (by kernel_rfl) (by kernel_rfl) ?q12a ?y12a hHeld ?r12a
  case o12a => simp only [List.getElem?_toArray, List.getElem?_cons_succ, List.getElem?_cons_zero]; rfl
  case q12a => exact fun _ _ _ h => h
  case y12a => (refine Or.inl ⟨rfl, ?_⟩; intro wq hq; obtain ⟨⟨a0, a1⟩, ⟨b0, b1⟩⟩ := HS.out wq hq; go_simp; try with_reducible rfl)
  simp only [Act.put, List.setIfInBounds_toArray, List.set_cons_zero, List.set_cons_succ]
  refine wpAnyH_take (i := 13) (oi := ?p13a) (v := ?v13a) ?o13a (by kernel_rfl) (by kernel_rfl) (by kernel_rfl) ?q13a ?y13a hHeld ?r13a
  case o13a => simp only [List.getElem?_toArray, List.getElem?_cons_succ, List.getElem?_cons_zero]; rfl
  case q13a => exact fun _ _ _ h => h
  case y13a => (refine Or.inl ⟨rfl, ?_⟩; intro wq hq; obtain ⟨⟨a0, a1⟩, ⟨b0, b1⟩⟩ := HS.out wq hq; go_simp; try with_reducible rfl)
  simp only [Act.put, List.setIfInBounds_toArray, List.set_cons_zero, List.set_cons_succ]
  refine wpAnyH_take (i := 14) (oi := ?p14a) (v := ?v14a) ?o14a (by kernel_rfl) (by kernel_rfl) (by kernel_rfl) ?q14a ?y14a hHeld ?r14a
  case o14a => simp only [List.getElem?_toArray, List.getElem?_cons_succ, List.getElem?_cons_zero]; rfl
  case q14a => exact fun _ _ _ h => h
  case y14a => (refine Or.inl ⟨rfl, ?_⟩; intro wq hq; obtain ⟨⟨a0, a1⟩, ⟨b0, b1⟩⟩ := HS.out wq hq; go_simp; try with_reducible rfl)
  simp only [Act.put, List.setIfInBounds_toArray, List.set_cons_zero, List.set_cons_succ]
  refine wpAnyH_take (i := 15) (oi := ?p15a) (v := ?v15a) ?o15a (by kernel_rfl) (by kernel_rfl) (by kernel_rfl) ?q15a ?y15a hHeld ?r15a
  case o15a => simp only [List.getElem?_toArray, List.getElem?_cons_succ, List.getElem?_cons_zero]; rfl
  case q15a => exact fun _ _ _ h => h
  case y15a => (refine Or.inl ⟨rfl, ?_⟩; intro wq hq; obtain ⟨⟨a0, a1⟩, ⟨b0, b1⟩⟩ := HS.out wq hq; go_simp; try with_reducible rfl)
  simp only [Act.put, List.setIfInBounds_toArray, List.set_cons_zero, List.set_cons_succ]
  refine wpAnyH_take (i := 16) (oi := ?p16a) (v := ?v16a) ?o16a (by kernel_rfl) (by kernel_rfl) (by kernel_rfl) ?q16a ?y16a hHeld ?r16a
  case o16a => simp only [List.getElem?_toArray, List.getElem?_cons_succ, List.getElem?_cons_zero]; rfl
  case q16a => exact fun _ _ _ h => h
  case y16a => (refine Or.inl ⟨rfl, ?_⟩; intro wq hq; obtain ⟨⟨a0, a1⟩, ⟨b0, b1⟩⟩ := HS.out wq hq; go_simp; try with_reducible rfl)
  simp only [Act.put, List.setIfInBounds_toArray, List.set_cons_zero, List.set_cons_succ]
  refine wpAnyH_take (i := 18) (oi := ?p18a) (v := ?v18a) ?o18a (by kernel_rfl) (by kernel_rfl) (by kernel_rfl) ?q18a ?y18a hHeld ?r18a
  case o18a => simp only [List.getElem?_toArray, List.getElem?_cons_succ, List.getElem?_cons_zero]; rfl
  case q18a => exact fun _ _ _ h => h
  case y18a => (refine Or.inl ⟨rfl, ?_⟩; intro wq hq; obtain ⟨⟨a0, a1⟩, ⟨b0, b1⟩⟩ := HS.out wq hq; go_simp; try with_reducible rfl)
  simp only [Act.put, List.setIfInBounds_toArray, List.set_cons_zero, List.set_cons_succ]
  refine wpAnyH_take (i := 19) (oi := ?p19a) (v := ?v19a) ?o19a (by kernel_rfl) (by kernel_rfl) (by kernel_rfl) ?q19a ?y19a hHeld ?r19a
  case o19a => simp only [List.getElem?_toArray, List.getElem?_cons_succ, List.getElem?_cons_zero]; rfl
  case q19a => exact fun _ _ _ h => h
  case y19a => (refine Or.inl ⟨rfl, ?_⟩; intro wq hq; obtain ⟨⟨a0, a1⟩, ⟨b0, b1⟩⟩ := HS.out wq hq; go_simp; try with_reducible rfl)
  simp only [Act.put, List.setIfInBounds_toArray, List.set_cons_zero, List.set_cons_succ]
  refine wpAnyH_ready (rs := [17]) (by kernel_rfl) (by simp) ?_
  refine AllReadyH.cons (o := ?p17a) ?o17a ?s17a AllReadyH.nil
  case o17a => simp only [List.getElem?_toArray, List.getElem?_cons_succ, List.getElem?_cons_zero]; rfl
  intro K hK
  go_simp
  refine (HN.out _).mono ?_
  rintro e v17 ⟨rfl, hb⟩
  have B17 : Below W1.heap.size W1 v17 := hHeld.trans (hb.mono hHeld.size)
  clear hb
  refine hK.out _ _ B17 (fun hHeld => ?_)
  clear hK K
  refine wpAnyH_ready (rs := [20]) (by kernel_rfl) (by simp) ?_
  refine AllReadyH.cons (o := ?p20a) ?o20a ?s20a AllReadyH.nil
  case o20a => simp only [List.getElem?_toArray, List.getElem?_cons_succ, List.getElem?_cons_zero]; rfl
  intro K hK
  go_simp
  refine (HN1.out _).mono ?_
  rintro e v20 ⟨rfl, hb⟩
  have B20 : Below W1.heap.size W1 v20 := hHeld.trans (hb.mono hHeld.size)
  clear hb
  refine hK.out _ _ B20 (fun hHeld => ?_)
  clear hK K
  refine wpAnyH_take (i := 21) (oi := ?p21a) (v := ?v21a) ?o21a (by kernel_rfl) (by kernel_rfl) (by kernel_rfl) ?q21a ?y21a hHeld ?r21a
  case o21a => simp only [List.getElem?_toArray, List.getElem?_cons_succ, List.getElem?_cons_zero]; rfl
  case q21a => exact fun _ _ _ h => h
  case y21a => (refine Or.inl ⟨rfl, ?_⟩; intro wq hq; obtain ⟨⟨a0, a1⟩, ⟨b0, b1⟩⟩ := HS.out wq hq; go_simp; try with_reducible rfl)
  simp only [Act.put, List.setIfInBounds_toArray, List.set_cons_zero, List.set_cons_succ]
  refine wpAnyH_take (i := 22) (oi := ?p22a) (v := ?v22a) ?o22a (by kernel_rfl) (by kernel_rfl) (by kernel_rfl) ?q22a ?y22a hHeld ?r22a
  case o22a => simp only [List.getElem?_toArray, List.getElem?_cons_succ, List.getElem?_cons_zero]; rfl
  case q22a => exact fun _ _ _ h => h
  case y22a => (refine Or.inl ⟨rfl, ?_⟩; intro wq hq; obtain ⟨⟨a0, a1⟩, ⟨b0, b1⟩⟩ := HS.out wq hq; go_simp; try with_reducible rfl)
  simp only [Act.put, List.setIfInBounds_toArray, List.set_cons_zero, List.set_cons_succ]
  refine wpAnyH_take (i := 23) (oi := ?p23a) (v := ?v23a) ?o23a (by kernel_rfl) (by kernel_rfl) (by kernel_rfl) ?q23a ?y23a hHeld ?r23a
  case o23a => simp only [List.getElem?_toArray, List.getElem?_cons_succ, List.getElem?_cons_zero]; rfl
  case q23a => exact fun _ _ _ h => h
  case y23a => (refine Or.inl ⟨rfl, ?_⟩; intro wq hq; obtain ⟨⟨a0, a1⟩, ⟨b0, b1⟩⟩ := HS.out wq hq; go_simp; try with_reducible rfl)
  simp only [Act.put, List.setIfInBounds_toArray, List.set_cons_zero, List.set_cons_succ]
  refine wpAnyH_take (i := 24) (oi := ?p24a) (v := ?v24a) ?o24a (by kernel_rfl) (by kernel_rfl) (by kernel_rfl) ?q24a ?y24a hHeld ?r24a
  case o24a => simp only [List.getElem?_toArray, List.getElem?_cons_succ, List.getElem?_cons_zero]; rfl
  case q24a => exact fun _ _ _ h => h
  case y24a => (refine Or.inl ⟨rfl, ?_⟩; intro wq hq; obtain ⟨⟨a0, a1⟩, ⟨b0, b1⟩⟩ := HS.out wq hq; go_simp; try with_reducible rfl)
  simp only [Act.put, List.setIfInBounds_toArray, List.set_cons_zero, List.set_cons_succ]
  refine wpAnyH_take (i := 26) (oi := ?p26a) (v := ?v26a) ?o26a (by kernel_rfl) (by kernel_rfl) (by kernel_rfl) ?q26a ?y26a hHeld ?r26a
  case o26a => simp only [List.getElem?_toArray, List.getElem?_cons_succ, List.getElem?_cons_zero]; rfl
  case q26a => exact fun _ _ _ h => h
  case y26a => (refine Or.inl ⟨rfl, ?_⟩; intro wq hq; obtain ⟨⟨a0, a1⟩, ⟨b0, b1⟩⟩ := HS.out wq hq; go_simp; try with_reducible rfl)
  simp only [Act.put, List.setIfInBounds_toArray, List.set_cons_zero, List.set_cons_succ]
  refine wpAnyH_ready (rs := [25]) (by kernel_rfl) (by simp) ?_
  refine AllReadyH.cons (o := ?p25a) ?o25a ?s25a AllReadyH.nil
  case o25a => simp only [List.getElem?_toArray, List.getElem?_cons_succ, List.getElem?_cons_zero]; rfl
  intro K hK
  go_simp
  refine (HQ.out _).mono ?_
  rintro e v25 ⟨rfl, rfl⟩
  refine hK.out _ _ hHeld (fun hHeld => ?_)
  clear hK K
  refine wpAnyH_ready (rs := [27]) (by kernel_rfl) (by simp) ?_
  refine AllReadyH.cons (o := ?p27a) ?o27a ?s27a AllReadyH.nil
  case o27a => simp only [List.getElem?_toArray, List.getElem?_cons_succ, List.getElem?_cons_zero]; rfl
  intro K hK
  go_simp
  refine (HQ1.out _).mono ?_
  rintro e v27 ⟨rfl, rfl⟩
  refine hK.out _ _ hHeld (fun hHeld => ?_)
  clear hK K
  refine wpAnyH_take (i := 28) (oi := ?p28a) (v := ?v28a) ?o28a (by kernel_rfl) (by kernel_rfl) (by kernel_rfl) ?q28a ?y28a hHeld ?r28a
  case o28a => simp only [List.getElem?_toArray, List.getElem?_cons_succ, List.getElem?_cons_zero]; rfl
  case q28a => exact fun _ _ _ h => h
  case y28a => (refine Or.inl ⟨rfl, ?_⟩; intro wq hq; obtain ⟨⟨a0, a1⟩, ⟨b0, b1⟩⟩ := HS.out wq hq; go_simp; try with_reducible rfl)
  simp only [Act.put, List.setIfInBounds_toArray, List.set_cons_zero, List.set_cons_succ]
  refine wpAnyH_take (i := 29) (oi := ?p29a) (v := ?v29a) ?o29a (by kernel_rfl) (by kernel_rfl) (by kernel_rfl) ?q29a ?y29a hHeld ?r29a
  case o29a => simp only [List.getElem?_toArray, List.getElem?_cons_succ, List.getElem?_cons_zero]; rfl
  case q29a => exact fun _ _ _ h => h
  case y29a => (refine Or.inl ⟨rfl, ?_⟩; intro wq hq; obtain ⟨⟨a0, a1⟩, ⟨b0, b1⟩⟩ := HS.out wq hq; go_simp; try with_reducible rfl)
  simp only [Act.put, List.setIfInBounds_toArray, List.set_cons_zero, List.set_cons_succ]
  refine wpAnyH_take (i := 30) (oi := ?p30a) (v := ?v30a) ?o30a (by kernel_rfl) (by kernel_rfl) (by kernel_rfl) ?q30a ?y30a hHeld ?r30a
  case o30a => simp only [List.getElem?_toArray, List.getElem?_cons_succ, List.getElem?_cons_zero]; rfl
  case q30a => exact fun _ _ _ h => h
  case y30a => (refine Or.inl ⟨rfl, ?_⟩; intro wq hq; obtain ⟨⟨a0, a1⟩, ⟨b0, b1⟩⟩ := HS.out wq hq; go_simp; try with_reducible rfl)
  simp only [Act.put, List.setIfInBounds_toArray, List.set_cons_zero, List.set_cons_succ]
  refine wpAnyH_ready (rs := [31]) (by kernel_rfl) (by simp) ?_
  refine AllReadyH.cons (o := ?p31a) ?o31a ?s31a AllReadyH.nil
  case o31a => simp only [List.getElem?_toArray, List.getElem?_cons_succ, List.getElem?_cons_zero]; rfl
  intro K hK
  go_simp
  refine (awake_any _).mono ?_
  rintro e v31 ⟨rfl, hb⟩
  have B31 : Below W1.heap.size W1 v31 := hHeld.trans (hb.mono hHeld.size)
  clear hb
  refine hK.out _ _ B31 (fun hHeld => ?_)
  clear hK K
  refine wpAnyH_take (i := 32) (oi := ?p32a) (v := ?v32a) ?o32a (by kernel_rfl) (by kernel_rfl) (by kernel_rfl) ?q32a ?y32a hHeld ?r32a
  case o32a => simp only [List.getElem?_toArray, List.getElem?_cons_succ, List.getElem?_cons_zero]; rfl
  case q32a => exact fun _ _ _ h => h
  case y32a => (refine Or.inl ⟨rfl, ?_⟩; intro wq hq; obtain ⟨⟨a0, a1⟩, ⟨b0, b1⟩⟩ := HS.out wq hq; go_simp; try with_reducible rfl)
  simp only [Act.put, List.setIfInBounds_toArray, List.set_cons_zero, List.set_cons_succ]
  refine wpAnyH_take (i := 33) (oi := ?p33a) (v := ?v33a) ?o33a (by kernel_rfl) (by kernel_rfl) (by kernel_rfl) ?q33a ?y33a hHeld ?r33a
  case o33a => simp only [List.getElem?_toArray, List.getElem?_cons_succ, List.getElem?_cons_zero]; rfl
  case q33a => exact fun _ _ _ h => h
  case y33a => (refine Or.inl ⟨rfl, ?_⟩; intro wq hq; obtain ⟨⟨a0, a1⟩, ⟨b0, b1⟩⟩ := HS.out wq hq; go_simp; try with_reducible rfl)
  simp only [Act.put, List.setIfInBounds_toArray, List.set_cons_zero, List.set_cons_succ]
  refine wpAnyH_done (by kernel_rfl) ?_ _
  go_wp2
  go_ret
  exact ⟨rfl, bel_up HB1.out hHeld (Nat.le_refl _)⟩
end Go.Proofs.Ytkohbjpinoonmaa
