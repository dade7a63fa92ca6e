/-
  The law of Encode and Check, walked.
-/
import Derived.Test.YtdnaacbfhjcjbaaL
namespace Go.Proofs.Ytdnaacbfhjcjbaa
open Go.RowKit
set_option linter.unusedVariables false

set_option maxRecDepth 100000 in
set_option maxHeartbeats 400000 in
theorem encodes_walk (k f t i : Int) (b : List UInt8) (w : World) (hb : b.length ≤ maxLen) :
    Calls Try.prog 3 #[.agg #[.int .i64 k, .int .i64 f, .int .i64 t, .int .i64 i, .string (ofL b)]] w fun e w' => e = .returned (.bool true) ∧ Below w.heap.size w w' := by
  have c1 := fun W => encode_any k f t i b W hb
  have c2 := fun W => refEncode_any k f t i b W hb
  have c3 := fun W => check_any k f t i (ofL b) W (by rw [ofL_size]; exact hb)
  have c4 := fun W => refCheck_any k f t i (ofL b) W (by rw [ofL_size]; exact hb)
  rw [ofL_size] at c3 c4
  generalize Msg.chk k f t i b.length = c at *
  generalize ofL (Msg.ecode k f t i b) = A at *
  have HB0 := Hid_of (bel1 w (.cells #[.int .i64 k, .int .i64 f, .int .i64 t, .int .i64 i, .string (ofL b)] 23))
  have HR0 := Hid_of (heap_alloc_new w (.cells #[.int .i64 k, .int .i64 f, .int .i64 t, .int .i64 i, .string (ofL b)] 23))
  go_enter Try.func3, Try.ntmps3
  go_wp2_with fail
  refine (c1 _).mono ?_
  rintro x w1 ⟨rfl, hb1⟩
  have HB1 := Hid_of (bel_up HB0.out hb1 (Nat.le_refl _))
  have HR1 := Hid_of (bel_row HR0.out hb1)
  obtain ⟨⟨y0, y1, y2, y3, y4⟩, -⟩ := row5 HR1.out
  clear c1 hb1 HB0 HR0
  go_wp2_with fail
  refine (c2 _).mono ?_
  rintro x w2 ⟨rfl, hb2⟩
  have HB2 := Hid_of (Below.drew (bel_up HB1.out hb2 (Nat.le_refl _)))
  have HR2 : Hid (w2.drew.heap[w.heap.size]? = some (.cells #[.int .i64 k, .int .i64 f, .int .i64 t, .int .i64 i, .string (ofL b)] 23 (0, 0))) := Hid_of (bel_row (W' := w2) HR1.out hb2)
  clear c2 hb2 HB1 HR1 y0 y1 y2 y3 y4
  go_wp2_with fail
  refine wp_region_held_drew (S := fun wq => wq.cell? ⟨w.heap.size, 0, none⟩ = some (.int .i64 k) ∧ wq.cell? ⟨w.heap.size, 1, none⟩ = some (.int .i64 f) ∧ wq.cell? ⟨w.heap.size, 2, none⟩ = some (.int .i64 t) ∧ wq.cell? ⟨w.heap.size, 3, none⟩ = some (.int .i64 i) ∧ wq.cell? ⟨w.heap.size, 4, none⟩ = some (.string (ofL b))) (by kernel_rfl) (row5 (w := w2) HR2.out).1 (fun hHeld => ?_)
  refine wpAnyH_take (i := 0) (oi := ?p0) (v := ?v0) ?o0 (by kernel_rfl) (by kernel_rfl) (by kernel_rfl) ?q0 ?y0 hHeld ?r0
  case o0 => simp only [List.getElem?_toArray, List.getElem?_cons_zero]; rfl
  case q0 => exact fun _ _ _ h => h
  case y0 => (refine Or.inl ⟨rfl, ?_⟩; intro wq hq; obtain ⟨q0, q1, q2, q3, q4⟩ := hq; go_simp; try with_reducible rfl)
  simp only [Act.put, List.setIfInBounds_toArray, List.set_cons_zero, List.set_cons_succ]
  refine wpAnyH_take (i := 2) (oi := ?p2) (v := ?v2) ?o2 (by kernel_rfl) (by kernel_rfl) (by kernel_rfl) ?q2 ?y2 hHeld ?r2
  case o2 => simp only [List.getElem?_toArray, List.getElem?_cons_succ, List.getElem?_cons_zero]; rfl
  case q2 => exact fun _ _ _ h => h
  case y2 => (refine Or.inl ⟨rfl, ?_⟩; intro wq hq; obtain ⟨q0, q1, q2, q3, q4⟩ := hq; go_simp; try with_reducible rfl)
  simp only [Act.put, List.setIfInBounds_toArray, List.set_cons_zero, List.set_cons_succ]
  refine wpAnyH_ready (rs := [1]) (by kernel_rfl) (by simp) ?_
  refine AllReadyH.cons (o := ?p1) ?o1 ?s1 AllReadyH.nil
  case o1 => simp only [List.getElem?_toArray, List.getElem?_cons_succ, List.getElem?_cons_zero]; rfl
  intro K hK
  go_simp
  refine (c3 _).mono ?_
  rintro x w3 ⟨rfl, hb3⟩
  have HB3 := Hid_of (bel_up HB2.out hb3 (Nat.le_refl _))
  have HR3 := Hid_of (bel_row HR2.out hb3)
  clear hb3
  refine hK.out _ _ (row5 HR3.out).1 (fun hHeld => ?_)
  clear hK K
  refine wpAnyH_ready (rs := [3]) (by kernel_rfl) (by simp) ?_
  refine AllReadyH.cons (o := ?p3) ?o3 ?s3 AllReadyH.nil
  case o3 => simp only [List.getElem?_toArray, List.getElem?_cons_succ, List.getElem?_cons_zero]; rfl
  intro K hK
  go_simp
  refine (c4 _).mono ?_
  rintro x w4 ⟨rfl, hb4⟩
  have HB4 := Hid_of (bel_up HB3.out hb4 (Nat.le_refl _))
  have HR4 := Hid_of (bel_row HR3.out hb4)
  clear hb4
  refine hK.out _ _ (row5 HR4.out).1 (fun hHeld => ?_)
  clear hK K
  refine wpAnyH_take (i := 4) (oi := ?p4) (v := ?v4) ?o4 (by kernel_rfl) (by kernel_rfl) (by kernel_rfl) ?q4 ?y4 hHeld ?r4
  case o4 => simp only [List.getElem?_toArray, List.getElem?_cons_succ, List.getElem?_cons_zero]; rfl
  case q4 => exact fun _ _ _ h => h
  case y4 => (refine Or.inl ⟨rfl, ?_⟩; intro wq hq; obtain ⟨q0, q1, q2, q3, q4⟩ := hq; go_simp; try with_reducible rfl)
  simp only [Act.put, List.setIfInBounds_toArray, List.set_cons_zero, List.set_cons_succ]
  refine wpAnyH_take (i := 5) (oi := ?p5) (v := ?v5) ?o5 (by kernel_rfl) (by kernel_rfl) (by kernel_rfl) ?q5 ?y5 hHeld ?r5
  case o5 => simp only [List.getElem?_toArray, List.getElem?_cons_succ, List.getElem?_cons_zero]; rfl
  case q5 => exact fun _ _ _ h => h
  case y5 => (refine Or.inl ⟨rfl, ?_⟩; intro wq hq; obtain ⟨q0, q1, q2, q3, q4⟩ := hq; go_simp; try with_reducible rfl)
  simp only [Act.put, List.setIfInBounds_toArray, List.set_cons_zero, List.set_cons_succ]
  refine wpAnyH_take (i := 6) (oi := ?p6) (v := ?v6) ?o6 (by kernel_rfl) (by kernel_rfl) (by kernel_rfl) ?q6 ?y6 hHeld ?r6
  case o6 => simp only [List.getElem?_toArray, List.getElem?_cons_succ, List.getElem?_cons_zero]; rfl
  case q6 => exact fun _ _ _ h => h
  case y6 => (refine Or.inl ⟨rfl, ?_⟩; intro wq hq; obtain ⟨q0, q1, q2, q3, q4⟩ := hq; go_simp; try with_reducible rfl)
  simp only [Act.put, List.setIfInBounds_toArray, List.set_cons_zero, List.set_cons_succ]
  refine wpAnyH_take (i := 7) (oi := ?p7) (v := ?v7) ?o7 (by kernel_rfl) (by kernel_rfl) (by kernel_rfl) ?q7 ?y7 hHeld ?r7
  case o7 => simp only [List.getElem?_toArray, List.getElem?_cons_succ, List.getElem?_cons_zero]; rfl
  case q7 => exact fun _ _ _ h => h
  case y7 => (refine Or.inl ⟨rfl, ?_⟩; intro wq hq; obtain ⟨q0, q1, q2, q3, q4⟩ := hq; go_simp; try with_reducible rfl)
  simp only [Act.put, List.setIfInBounds_toArray, List.set_cons_zero, List.set_cons_succ]
  refine wpAnyH_take (i := 8) (oi := ?p8) (v := ?v8) ?o8 (by kernel_rfl) (by kernel_rfl) (by kernel_rfl) ?q8 ?y8 hHeld ?r8
  case o8 => simp only [List.getElem?_toArray, List.getElem?_cons_succ, List.getElem?_cons_zero]; rfl
  case q8 => exact fun _ _ _ h => h
  case y8 => (refine Or.inl ⟨rfl, ?_⟩; intro wq hq; obtain ⟨q0, q1, q2, q3, q4⟩ := hq; go_simp; try with_reducible rfl)
  simp only [Act.put, List.setIfInBounds_toArray, List.set_cons_zero, List.set_cons_succ]
  refine wpAnyH_take (i := 9) (oi := ?p9) (v := ?v9) ?o9 (by kernel_rfl) (by kernel_rfl) (by kernel_rfl) ?q9 ?y9 hHeld ?r9
  case o9 => simp only [List.getElem?_toArray, List.getElem?_cons_succ, List.getElem?_cons_zero]; rfl
  case q9 => exact fun _ _ _ h => h
  case y9 => (refine Or.inl ⟨rfl, ?_⟩; intro wq hq; obtain ⟨q0, q1, q2, q3, q4⟩ := hq; go_simp; try with_reducible rfl)
  simp only [Act.put, List.setIfInBounds_toArray, List.set_cons_zero, List.set_cons_succ]
  refine wpAnyH_take (i := 10) (oi := ?p10) (v := ?v10) ?o10 (by kernel_rfl) (by kernel_rfl) (by kernel_rfl) ?q10 ?y10 hHeld ?r10
  case o10 => simp only [List.getElem?_toArray, List.getElem?_cons_succ, List.getElem?_cons_zero]; rfl
  case q10 => exact fun _ _ _ h => h
  case y10 => (refine Or.inl ⟨rfl, ?_⟩; intro wq hq; obtain ⟨q0, q1, q2, q3, q4⟩ := hq; go_simp; try with_reducible rfl)
  simp only [Act.put, List.setIfInBounds_toArray, List.set_cons_zero, List.set_cons_succ]
  refine wpAnyH_take (i := 11) (oi := ?p11) (v := ?v11) ?o11 (by kernel_rfl) (by kernel_rfl) (by kernel_rfl) ?q11 ?y11 hHeld ?r11
  case o11 => simp only [List.getElem?_toArray, List.getElem?_cons_succ, List.getElem?_cons_zero]; rfl
  case q11 => exact fun _ _ _ h => h
  case y11 => (refine Or.inl ⟨rfl, ?_⟩; intro wq hq; obtain ⟨q0, q1, q2, q3, q4⟩ := hq; go_simp; try with_reducible rfl)
  simp only [Act.put, List.setIfInBounds_toArray, List.set_cons_zero, List.set_cons_succ]
  refine wpAnyH_take (i := 12) (oi := ?p12) (v := ?v12) ?o12 (by kernel_rfl) (by kernel_rfl) (by kernel_rfl) ?q12 ?y12 hHeld ?r12
  case o12 => simp only [List.getElem?_toArray, List.getElem?_cons_succ, List.getElem?_cons_zero]; rfl
  case q12 => exact fun _ _ _ h => h
  case y12 => (refine Or.inl ⟨rfl, ?_⟩; intro wq hq; obtain ⟨q0, q1, q2, q3, q4⟩ := hq; go_simp; try with_reducible rfl)
  simp only [Act.put, List.setIfInBounds_toArray, List.set_cons_zero, List.set_cons_succ]
  refine wpAnyH_take (i := 13) (oi := ?p13) (v := ?v13) ?o13 (by kernel_rfl) (by kernel_rfl) (by kernel_rfl) ?q13 ?y13 hHeld ?r13
  case o13 => simp only [List.getElem?_toArray, List.getElem?_cons_succ, List.getElem?_cons_zero]; rfl
  case q13 => exact fun _ _ _ h => h
  case y13 => (refine Or.inl ⟨rfl, ?_⟩; intro wq hq; obtain ⟨q0, q1, q2, q3, q4⟩ := hq; go_simp; try with_reducible rfl)
  simp only [Act.put, List.setIfInBounds_toArray, List.set_cons_zero, List.set_cons_succ]
  refine wpAnyH_take (i := 14) (oi := ?p14) (v := ?v14) ?o14 (by kernel_rfl) (by kernel_rfl) (by kernel_rfl) ?q14 ?y14 hHeld ?r14
  case o14 => simp only [List.getElem?_toArray, List.getElem?_cons_succ, List.getElem?_cons_zero]; rfl
  case q14 => exact fun _ _ _ h => h
  case y14 => (refine Or.inl ⟨rfl, ?_⟩; intro wq hq; obtain ⟨q0, q1, q2, q3, q4⟩ := hq; go_simp; try with_reducible rfl)
  simp only [Act.put, List.setIfInBounds_toArray, List.set_cons_zero, List.set_cons_succ]
  refine wpAnyH_take (i := 15) (oi := ?p15) (v := ?v15) ?o15 (by kernel_rfl) (by kernel_rfl) (by kernel_rfl) ?q15 ?y15 hHeld ?r15
  case o15 => simp only [List.getElem?_toArray, List.getElem?_cons_succ, List.getElem?_cons_zero]; rfl
  case q15 => exact fun _ _ _ h => h
  case y15 => (refine Or.inl ⟨rfl, ?_⟩; intro wq hq; obtain ⟨q0, q1, q2, q3, q4⟩ := hq; go_simp; try with_reducible rfl)
  simp only [Act.put, List.setIfInBounds_toArray, List.set_cons_zero, List.set_cons_succ]
  refine wpAnyH_ready (rs := [16]) (by kernel_rfl) (by simp) ?_
  refine AllReadyH.cons (o := ?p16) ?o16 ?s16 AllReadyH.nil
  case o16 => simp only [List.getElem?_toArray, List.getElem?_cons_succ, List.getElem?_cons_zero]; rfl
  intro K hK
  go_simp
  refine (awake_any _).mono ?_
  rintro x w5 ⟨rfl, hb5⟩
  have HB5 := Hid_of (bel_up HB4.out hb5 (Nat.le_refl _))
  have HR5 := Hid_of (bel_row HR4.out hb5)
  clear hb5
  refine hK.out _ _ (row5 HR5.out).1 (fun hHeld => ?_)
  clear hK K
  refine wpAnyH_take (i := 17) (oi := ?p17) (v := ?v17) ?o17 (by kernel_rfl) (by kernel_rfl) (by kernel_rfl) ?q17 ?y17 hHeld ?r17
  case o17 => simp only [List.getElem?_toArray, List.getElem?_cons_succ, List.getElem?_cons_zero]; rfl
  case q17 => exact fun _ _ _ h => h
  case y17 => (refine Or.inl ⟨rfl, ?_⟩; intro wq hq; obtain ⟨q0, q1, q2, q3, q4⟩ := hq; go_simp; try with_reducible rfl)
  simp only [Act.put, List.setIfInBounds_toArray, List.set_cons_zero, List.set_cons_succ]
  refine wpAnyH_take (i := 18) (oi := ?p18) (v := ?v18) ?o18 (by kernel_rfl) (by kernel_rfl) (by kernel_rfl) ?q18 ?y18 hHeld ?r18
  case o18 => simp only [List.getElem?_toArray, List.getElem?_cons_succ, List.getElem?_cons_zero]; rfl
  case q18 => exact fun _ _ _ h => h
  case y18 => (refine Or.inl ⟨rfl, ?_⟩; intro wq hq; obtain ⟨q0, q1, q2, q3, q4⟩ := hq; go_simp; try with_reducible rfl)
  simp only [Act.put, List.setIfInBounds_toArray, List.set_cons_zero, List.set_cons_succ]
  refine wpAnyH_done (by kernel_rfl) ?_ _
  go_wp2
  go_ret
  exact ⟨rfl, HB5.out⟩
end Go.Proofs.Ytdnaacbfhjcjbaa
