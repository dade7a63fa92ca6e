/-
  A message's fields, in one row of interfaces.
-/
import Derived.Test.YtjbodjjeenjbeaaFA
import Derived.Laws.EntriesVeiled
namespace Go.Proofs.Ytjbodjjeenjbeaa
open Go.RowKit
set_option linter.unusedVariables false

/-- A field's value: where it stands, how it is laid, how it is read. -/
def fv (p j a b : Nat) : Value := .agg #[.pointer (some ⟨p, j, none⟩), .func (.func a) #[] #[], .func (.func b) #[] #[]]
theorem f62_res : Try.f62.results = #[.cell 2 124] := rfl
theorem Try.size124 : (Try.prog.info? 124).map (·.size) = some 3 := by kernel_rfl
theorem Try.und124 : ∃ fs, Try.prog.underlying 124 = some (.struct fs) := ⟨_, Try.underlying124⟩
set_option maxRecDepth 100000 in
set_option maxHeartbeats 200000 in
theorem byteAt_any (p j : Nat) (w : World) : Calls Try.prog 62 #[.pointer (some ⟨p, j, none⟩)] w fun e w' => e = .returned (fv p j 72 73) ∧ Below w.heap.size w w' := by
  go_enter Try.func62, Try.ntmps62
  go_wp2
  refine bodyPost_ret (v := fv p j 72 73) ?_ rfl ⟨rfl, bel1 w _⟩
  obtain ⟨fs, hf⟩ := Try.und124
  exact results_cell_row f62_res _ _ w.heap.size 124 _ (0, 0) _ rfl (heap_alloc_new w _) hf rfl Try.size124
/-- The row of fields. -/
def fvs (p : Nat) : Array Value := #[.iface 124 (fv p 0 72 73), .iface 124 (fv p 1 72 73), .iface 124 (fv p 2 72 73), .iface 124 (fv p 3 63 64), .iface 133 (fv p 4 65 66)]
def Fields (w : World) (p : Nat) (e : Ending) (w' : World) : Prop := ∃ g, e = .returned (.slice (some ⟨g, 0, none⟩) 5 5) ∧ w.heap.size ≤ g ∧ w'.heap[g]? = some (.cells (fvs p) 96 (0, 0)) ∧ Below w.heap.size w w'
set_option maxRecDepth 100000 in
set_option maxHeartbeats 400000 in
theorem fieldsOf_any (p : Nat) (w : World) : Calls Try.prog 47 #[.pointer (some ⟨p, 0, none⟩)] w (Fields w p) := by
  have HD := Hid_of (Below.drew (Below.refl w.heap.size w))
  go_enter Try.func47, Try.ntmps47
  go_wp2_with fail
  refine wp_region_held_drew (S := fun _ => True) (by kernel_rfl) trivial (fun hHeld => ?_)
  refine wpAnyH_take (i := 0) (oi := ?p0) (v := ?v0) ?o0 (by kernel_rfl) (by kernel_rfl) (by kernel_rfl) ?q0 ?y0 hHeld ?r0
  case o0 => simp only [List.getElem?_toArray, List.getElem?_cons_zero]; rfl
  case q0 => exact fun _ _ _ h => h
  case y0 => (refine Or.inl ⟨rfl, ?_⟩; intro wq hq; obtain _ := hq; go_simp; try with_reducible rfl)
  simp only [Act.put, List.setIfInBounds_toArray, List.set_cons_zero, List.set_cons_succ]
  refine wpAnyH_take (i := 1) (oi := ?p1) (v := ?v1) ?o1 (by kernel_rfl) (by kernel_rfl) (by kernel_rfl) ?q1 ?y1 hHeld ?r1
  case o1 => simp only [List.getElem?_toArray, List.getElem?_cons_succ, List.getElem?_cons_zero]; rfl
  case q1 => exact fun _ _ _ h => h
  case y1 => (refine Or.inl ⟨rfl, ?_⟩; intro wq hq; obtain _ := hq; go_simp; try with_reducible rfl)
  simp only [Act.put, List.setIfInBounds_toArray, List.set_cons_zero, List.set_cons_succ]
  refine wpAnyH_take (i := 2) (oi := ?p2) (v := ?v2) ?o2 (by kernel_rfl) (by kernel_rfl) (by kernel_rfl) ?q2 ?y2 hHeld ?r2
  case o2 => simp only [List.getElem?_toArray, List.getElem?_cons_succ, List.getElem?_cons_zero]; rfl
  case q2 => exact fun _ _ _ h => h
  case y2 => (refine Or.inl ⟨rfl, ?_⟩; intro wq hq; obtain _ := hq; go_simp; try with_reducible rfl)
  simp only [Act.put, List.setIfInBounds_toArray, List.set_cons_zero, List.set_cons_succ]
  refine wpAnyH_take (i := 5) (oi := ?p5) (v := ?v5) ?o5 (by kernel_rfl) (by kernel_rfl) (by kernel_rfl) ?q5 ?y5 hHeld ?r5
  case o5 => simp only [List.getElem?_toArray, List.getElem?_cons_succ, List.getElem?_cons_zero]; rfl
  case q5 => exact fun _ _ _ h => h
  case y5 => (refine Or.inl ⟨rfl, ?_⟩; intro wq hq; obtain _ := hq; go_simp; try with_reducible rfl)
  simp only [Act.put, List.setIfInBounds_toArray, List.set_cons_zero, List.set_cons_succ]
  refine wpAnyH_take (i := 6) (oi := ?p6) (v := ?v6) ?o6 (by kernel_rfl) (by kernel_rfl) (by kernel_rfl) ?q6 ?y6 hHeld ?r6
  case o6 => simp only [List.getElem?_toArray, List.getElem?_cons_succ, List.getElem?_cons_zero]; rfl
  case q6 => exact fun _ _ _ h => h
  case y6 => (refine Or.inl ⟨rfl, ?_⟩; intro wq hq; obtain _ := hq; go_simp; try with_reducible rfl)
  simp only [Act.put, List.setIfInBounds_toArray, List.set_cons_zero, List.set_cons_succ]
  refine wpAnyH_take (i := 7) (oi := ?p7) (v := ?v7) ?o7 (by kernel_rfl) (by kernel_rfl) (by kernel_rfl) ?q7 ?y7 hHeld ?r7
  case o7 => simp only [List.getElem?_toArray, List.getElem?_cons_succ, List.getElem?_cons_zero]; rfl
  case q7 => exact fun _ _ _ h => h
  case y7 => (refine Or.inl ⟨rfl, ?_⟩; intro wq hq; obtain _ := hq; go_simp; try with_reducible rfl)
  simp only [Act.put, List.setIfInBounds_toArray, List.set_cons_zero, List.set_cons_succ]
  refine wpAnyH_take (i := 10) (oi := ?p10) (v := ?v10) ?o10 (by kernel_rfl) (by kernel_rfl) (by kernel_rfl) ?q10 ?y10 hHeld ?r10
  case o10 => simp only [List.getElem?_toArray, List.getElem?_cons_succ, List.getElem?_cons_zero]; rfl
  case q10 => exact fun _ _ _ h => h
  case y10 => (refine Or.inl ⟨rfl, ?_⟩; intro wq hq; obtain _ := hq; go_simp; try with_reducible rfl)
  simp only [Act.put, List.setIfInBounds_toArray, List.set_cons_zero, List.set_cons_succ]
  refine wpAnyH_take (i := 11) (oi := ?p11) (v := ?v11) ?o11 (by kernel_rfl) (by kernel_rfl) (by kernel_rfl) ?q11 ?y11 hHeld ?r11
  case o11 => simp only [List.getElem?_toArray, List.getElem?_cons_succ, List.getElem?_cons_zero]; rfl
  case q11 => exact fun _ _ _ h => h
  case y11 => (refine Or.inl ⟨rfl, ?_⟩; intro wq hq; obtain _ := hq; go_simp; try with_reducible rfl)
  simp only [Act.put, List.setIfInBounds_toArray, List.set_cons_zero, List.set_cons_succ]
  refine wpAnyH_take (i := 12) (oi := ?p12) (v := ?v12) ?o12 (by kernel_rfl) (by kernel_rfl) (by kernel_rfl) ?q12 ?y12 hHeld ?r12
  case o12 => simp only [List.getElem?_toArray, List.getElem?_cons_succ, List.getElem?_cons_zero]; rfl
  case q12 => exact fun _ _ _ h => h
  case y12 => (refine Or.inl ⟨rfl, ?_⟩; intro wq hq; obtain _ := hq; go_simp; try with_reducible rfl)
  simp only [Act.put, List.setIfInBounds_toArray, List.set_cons_zero, List.set_cons_succ]
  refine wpAnyH_take (i := 15) (oi := ?p15) (v := ?v15) ?o15 (by kernel_rfl) (by kernel_rfl) (by kernel_rfl) ?q15 ?y15 hHeld ?r15
  case o15 => simp only [List.getElem?_toArray, List.getElem?_cons_succ, List.getElem?_cons_zero]; rfl
  case q15 => exact fun _ _ _ h => h
  case y15 => (refine Or.inl ⟨rfl, ?_⟩; intro wq hq; obtain _ := hq; go_simp; try with_reducible rfl)
  simp only [Act.put, List.setIfInBounds_toArray, List.set_cons_zero, List.set_cons_succ]
  refine wpAnyH_take (i := 16) (oi := ?p16) (v := ?v16) ?o16 (by kernel_rfl) (by kernel_rfl) (by kernel_rfl) ?q16 ?y16 hHeld ?r16
  case o16 => simp only [List.getElem?_toArray, List.getElem?_cons_succ, List.getElem?_cons_zero]; rfl
  case q16 => exact fun _ _ _ h => h
  case y16 => (refine Or.inl ⟨rfl, ?_⟩; intro wq hq; obtain _ := hq; go_simp; try with_reducible rfl)
  simp only [Act.put, List.setIfInBounds_toArray, List.set_cons_zero, List.set_cons_succ]
  refine wpAnyH_take (i := 17) (oi := ?p17) (v := ?v17) ?o17 (by kernel_rfl) (by kernel_rfl) (by kernel_rfl) ?q17 ?y17 hHeld ?r17
  case o17 => simp only [List.getElem?_toArray, List.getElem?_cons_succ, List.getElem?_cons_zero]; rfl
  case q17 => exact fun _ _ _ h => h
  case y17 => (refine Or.inl ⟨rfl, ?_⟩; intro wq hq; obtain _ := hq; go_simp; try with_reducible rfl)
  simp only [Act.put, List.setIfInBounds_toArray, List.set_cons_zero, List.set_cons_succ]
  refine wpAnyH_take (i := 18) (oi := ?p18) (v := ?v18) ?o18 (by kernel_rfl) (by kernel_rfl) (by kernel_rfl) ?q18 ?y18 hHeld ?r18
  case o18 => simp only [List.getElem?_toArray, List.getElem?_cons_succ, List.getElem?_cons_zero]; rfl
  case q18 => exact fun _ _ _ h => h
  case y18 => (refine Or.inl ⟨rfl, ?_⟩; intro wq hq; obtain _ := hq; go_simp; try with_reducible rfl)
  simp only [Act.put, List.setIfInBounds_toArray, List.set_cons_zero, List.set_cons_succ]
  refine wpAnyH_take (i := 19) (oi := ?p19) (v := ?v19) ?o19 (by kernel_rfl) (by kernel_rfl) (by kernel_rfl) ?q19 ?y19 hHeld ?r19
  case o19 => simp only [List.getElem?_toArray, List.getElem?_cons_succ, List.getElem?_cons_zero]; rfl
  case q19 => exact fun _ _ _ h => h
  case y19 => (refine Or.inl ⟨rfl, ?_⟩; intro wq hq; obtain _ := hq; go_simp; try with_reducible rfl)
  simp only [Act.put, List.setIfInBounds_toArray, List.set_cons_zero, List.set_cons_succ]
  refine wpAnyH_take (i := 20) (oi := ?p20) (v := ?v20) ?o20 (by kernel_rfl) (by kernel_rfl) (by kernel_rfl) ?q20 ?y20 hHeld ?r20
  case o20 => simp only [List.getElem?_toArray, List.getElem?_cons_succ, List.getElem?_cons_zero]; rfl
  case q20 => exact fun _ _ _ h => h
  case y20 => (refine Or.inl ⟨rfl, ?_⟩; intro wq hq; obtain _ := hq; go_simp; try with_reducible rfl)
  simp only [Act.put, List.setIfInBounds_toArray, List.set_cons_zero, List.set_cons_succ]
  refine wpAnyH_take (i := 21) (oi := ?p21) (v := ?v21) ?o21 (by kernel_rfl) (by kernel_rfl) (by kernel_rfl) ?q21 ?y21 hHeld ?r21
  case o21 => simp only [List.getElem?_toArray, List.getElem?_cons_succ, List.getElem?_cons_zero]; rfl
  case q21 => exact fun _ _ _ h => h
  case y21 => (refine Or.inl ⟨rfl, ?_⟩; intro wq hq; obtain _ := hq; go_simp; try with_reducible rfl)
  simp only [Act.put, List.setIfInBounds_toArray, List.set_cons_zero, List.set_cons_succ]
  refine wpAnyH_take (i := 22) (oi := ?p22) (v := ?v22) ?o22 (by kernel_rfl) (by kernel_rfl) (by kernel_rfl) ?q22 ?y22 hHeld ?r22
  case o22 => simp only [List.getElem?_toArray, List.getElem?_cons_succ, List.getElem?_cons_zero]; rfl
  case q22 => exact fun _ _ _ h => h
  case y22 => (refine Or.inl ⟨rfl, ?_⟩; intro wq hq; obtain _ := hq; go_simp; try with_reducible rfl)
  simp only [Act.put, List.setIfInBounds_toArray, List.set_cons_zero, List.set_cons_succ]
  refine wpAnyH_take (i := 23) (oi := ?p23) (v := ?v23) ?o23 (by kernel_rfl) (by kernel_rfl) (by kernel_rfl) ?q23 ?y23 hHeld ?r23
  case o23 => simp only [List.getElem?_toArray, List.getElem?_cons_succ, List.getElem?_cons_zero]; rfl
  case q23 => exact fun _ _ _ h => h
  case y23 => (refine Or.inl ⟨rfl, ?_⟩; intro wq hq; obtain _ := hq; go_simp; try with_reducible rfl)
  simp only [Act.put, List.setIfInBounds_toArray, List.set_cons_zero, List.set_cons_succ]
  refine wpAnyH_take (i := 24) (oi := ?p24) (v := ?v24) ?o24 (by kernel_rfl) (by kernel_rfl) (by kernel_rfl) ?q24 ?y24 hHeld ?r24
  case o24 => simp only [List.getElem?_toArray, List.getElem?_cons_succ, List.getElem?_cons_zero]; rfl
  case q24 => exact fun _ _ _ h => h
  case y24 => (refine Or.inl ⟨rfl, ?_⟩; intro wq hq; obtain _ := hq; go_simp; try with_reducible rfl)
  simp only [Act.put, List.setIfInBounds_toArray, List.set_cons_zero, List.set_cons_succ]
  refine wpAnyH_ready (rs := [3]) (by kernel_rfl) (by simp) ?_
  refine AllReadyH.cons (o := ?p3) ?o3 ?s3 AllReadyH.nil
  case o3 => simp only [List.getElem?_toArray, List.getElem?_cons_succ, List.getElem?_cons_zero]; rfl
  intro K hK
  go_simp
  refine (byteAt_any p 0 _).mono ?_
  rintro x w1 ⟨rfl, hb1⟩
  have HD1 := Hid_of (bel_up HD.out hb1 (Nat.le_refl _))
  clear hb1
  unfold fv
  refine hK.out _ _ trivial (fun hHeld => ?_)
  clear hK K
  refine wpAnyH_take (i := 4) (oi := ?p4) (v := ?v4) ?o4 (by kernel_rfl) (by kernel_rfl) (by kernel_rfl) ?q4 ?y4 hHeld ?r4
  case o4 => simp only [List.getElem?_toArray, List.getElem?_cons_succ, List.getElem?_cons_zero]; rfl
  case q4 => exact fun _ _ _ h => h
  case y4 => (refine Or.inl ⟨rfl, ?_⟩; intro wq hq; obtain _ := hq; go_simp; try with_reducible rfl)
  simp only [Act.put, List.setIfInBounds_toArray, List.set_cons_zero, List.set_cons_succ]
  refine wpAnyH_ready (rs := [8]) (by kernel_rfl) (by simp) ?_
  refine AllReadyH.cons (o := ?p8) ?o8 ?s8 AllReadyH.nil
  case o8 => simp only [List.getElem?_toArray, List.getElem?_cons_succ, List.getElem?_cons_zero]; rfl
  intro K hK
  go_simp
  refine (byteAt_any p 1 _).mono ?_
  rintro x w2 ⟨rfl, hb2⟩
  have HD2 := Hid_of (bel_up HD1.out hb2 (Nat.le_refl _))
  clear hb2
  unfold fv
  refine hK.out _ _ trivial (fun hHeld => ?_)
  clear hK K
  refine wpAnyH_take (i := 9) (oi := ?p9) (v := ?v9) ?o9 (by kernel_rfl) (by kernel_rfl) (by kernel_rfl) ?q9 ?y9 hHeld ?r9
  case o9 => simp only [List.getElem?_toArray, List.getElem?_cons_succ, List.getElem?_cons_zero]; rfl
  case q9 => exact fun _ _ _ h => h
  case y9 => (refine Or.inl ⟨rfl, ?_⟩; intro wq hq; obtain _ := hq; go_simp; try with_reducible rfl)
  simp only [Act.put, List.setIfInBounds_toArray, List.set_cons_zero, List.set_cons_succ]
  refine wpAnyH_ready (rs := [13]) (by kernel_rfl) (by simp) ?_
  refine AllReadyH.cons (o := ?p13) ?o13 ?s13 AllReadyH.nil
  case o13 => simp only [List.getElem?_toArray, List.getElem?_cons_succ, List.getElem?_cons_zero]; rfl
  intro K hK
  go_simp
  refine (byteAt_any p 2 _).mono ?_
  rintro x w3 ⟨rfl, hb3⟩
  have HD3 := Hid_of (bel_up HD2.out hb3 (Nat.le_refl _))
  clear hb3
  unfold fv
  refine hK.out _ _ trivial (fun hHeld => ?_)
  clear hK K
  refine wpAnyH_take (i := 14) (oi := ?p14) (v := ?v14) ?o14 (by kernel_rfl) (by kernel_rfl) (by kernel_rfl) ?q14 ?y14 hHeld ?r14
  case o14 => simp only [List.getElem?_toArray, List.getElem?_cons_succ, List.getElem?_cons_zero]; rfl
  case q14 => exact fun _ _ _ h => h
  case y14 => (refine Or.inl ⟨rfl, ?_⟩; intro wq hq; obtain _ := hq; go_simp; try with_reducible rfl)
  simp only [Act.put, List.setIfInBounds_toArray, List.set_cons_zero, List.set_cons_succ]
  refine wpAnyH_ready (rs := [25]) (by kernel_rfl) (by simp) ?_
  refine AllReadyH.cons (o := ?p25) ?o25 ?s25 AllReadyH.nil
  case o25 => simp only [List.getElem?_toArray, List.getElem?_cons_succ, List.getElem?_cons_zero]; rfl
  intro K hK
  go_simp
  obtain ⟨W8, hW8⟩ : ∃ W8, w3.alloc (.cells (fvs p) 96) = W8 := ⟨_, rfl⟩
  have HG8 : Hid (W8.heap[w3.heap.size]? = some (.cells (fvs p) 96 (0, 0))) := Hid_of (show W8.heap[w3.heap.size]? = some (.cells (fvs p) 96 (0, 0)) by rw [← hW8]; exact heap_alloc_new w3 _)
  have HB8 := Hid_of (show Below w.heap.size w W8 by rw [← hW8]; exact bel_up HD3.out (bel1 w3 _) (Nat.le_refl _))
  have HE8 := Hid_of hW8
  unfold fvs fv at HE8
  clear hW8
  rw [HE8.out]
  refine hK.out _ _ trivial (fun hHeld => ?_)
  clear hK K
  refine wpAnyH_take (i := 26) (oi := ?p26) (v := ?v26) ?o26 (by kernel_rfl) (by kernel_rfl) (by kernel_rfl) ?q26 ?y26 hHeld ?r26
  case o26 => simp only [List.getElem?_toArray, List.getElem?_cons_succ, List.getElem?_cons_zero]; rfl
  case q26 => exact fun _ _ _ h => h
  case y26 => (refine Or.inl ⟨rfl, ?_⟩; intro wq hq; obtain _ := hq; go_simp; try with_reducible rfl)
  simp only [Act.put, List.setIfInBounds_toArray, List.set_cons_zero, List.set_cons_succ]
  refine wpAnyH_done (by kernel_rfl) ?_ _
  go_wp2
  go_ret
  exact ⟨w3.heap.size, rfl, HD3.out.size, HG8.out, HB8.out⟩
end Go.Proofs.Ytjbodjjeenjbeaa
