/-
  A node's calls are made; moments, waits, messages; what is refused.
-/
import Derived.Test.YtbgbdiiinggjnaaCA
import Derived.Deep.CutRange
namespace Go.Proofs.Ytbgbdiiinggjnaa
open Go.RowKit
set_option linter.unusedVariables false
open M (E)
open Cl (K W Ms fup)

theorem isMoment_any (now : Int) (w : World) : Calls Try.prog 31 #[.int .i64 now] w fun e w' => e = .returned (.bool (Cl.moment now)) ∧ w' = w := by
  unfold Cl.moment
  cases h1 : decide (0 ≤ now) with
  | true =>
    go_enter Try.func31, Try.ntmps31
    go_wp2
    go_ret
    exact ⟨rfl, rfl⟩
  | false =>
    go_enter Try.func31, Try.ntmps31
    go_wp2
    go_ret
    exact ⟨rfl, rfl⟩
theorem wait_any (s : Int) (h0 : 0 ≤ s) (h1 : s < 8) (w : World) : Calls Try.prog 36 #[.int .i64 s] w fun e w' => e = .returned (.int .i64 (Cl.wait s)) ∧ w' = w := by
  rcases (by omega : s = 0 ∨ s = 1 ∨ s = 2 ∨ s = 3 ∨ s = 4 ∨ s = 5 ∨ s = 6 ∨ s = 7) with rfl | rfl | rfl | rfl | rfl | rfl | rfl | rfl
  all_goals
    go_enter Try.func36, Try.ntmps36
    go_wp2
    go_ret
    exact ⟨rfl, rfl⟩
/-- Five cells of a block, stored. -/
def st5 (w : World) (B : Nat) (v0 v1 v2 v3 v4 : Value) : World := ((((w.setCell ⟨B, 0, none⟩ v0).setCell ⟨B, 1, none⟩ v1).setCell ⟨B, 2, none⟩ v2).setCell ⟨B, 3, none⟩ v3).setCell ⟨B, 4, none⟩ v4
theorem st5_other (w : World) (B : Nat) (v0 v1 v2 v3 v4 : Value) (k : Nat) (hk : k ≠ B) : (st5 w B v0 v1 v2 v3 v4).heap[k]? = w.heap[k]? := by
  unfold st5
  rw [heap_setCell_other _ ⟨B, 4, none⟩ k _ hk, heap_setCell_other _ ⟨B, 3, none⟩ k _ hk, heap_setCell_other _ ⟨B, 2, none⟩ k _ hk, heap_setCell_other _ ⟨B, 1, none⟩ k _ hk, heap_setCell_other _ ⟨B, 0, none⟩ k _ hk]
theorem st5_row {w : World} {B : Nat} {u0 u1 u2 u3 u4 : Value} {t : TypeId} (v0 v1 v2 v3 v4 : Value) (h : w.heap[B]? = some (.cells #[u0, u1, u2, u3, u4] t (0, 0))) : (st5 w B v0 v1 v2 v3 v4).heap[B]? = some (.cells #[v0, v1, v2, v3, v4] t (0, 0)) :=
  heap_setCell_same _ B 4 _ _ _ (heap_setCell_same _ B 3 _ _ _ (heap_setCell_same _ B 2 _ _ _ (heap_setCell_same _ B 1 _ _ _ (heap_setCell_same w B 0 _ _ _ h))))
theorem st5_below {w0 w : World} {B' B : Nat} {v0 v1 v2 v3 v4 : Value} (h : Below B' w0 w) (hB : B' ≤ B) : Below B' w0 (st5 w B v0 v1 v2 v3 v4) := ((((h.setCell hB _).setCell hB _).setCell hB _).setCell hB _).setCell hB _
theorem f35_res : Try.f35.results = #[.cell 2 32] := rfl
theorem Try.size32 : (Try.prog.info? 32).map (·.size) = some 5 := by kernel_rfl
set_option maxHeartbeats 400000 in
theorem message_any (x : W) (hs : x.body.size ≤ 140737488351232) (w : World) : Calls Try.prog 35 #[.agg #[.int .i64 x.fr, .int .i64 x.whom, .int .i64 x.id, .int .i64 x.sent, .string x.body]] w fun e w' => e = .returned (.agg #[.int .i64 1, .int .i64 x.fr, .int .i64 x.whom, .int .i64 x.id, .string x.body]) ∧ Below w.heap.size w w' := by
  obtain ⟨fr, whom, id, sent, body⟩ := x
  simp only at hs ⊢
  obtain ⟨W1, HW1⟩ : ∃ W1, Hid ((w.alloc (.cells #[.int .i64 fr, .int .i64 whom, .int .i64 id, .int .i64 sent, .string body] 74)).alloc (.cells #[.int .i64 0, .int .i64 0, .int .i64 0, .int .i64 0, .string ⟨#[]⟩] 32) = W1) := ⟨_, rfl⟩
  have HB1 : Hid (Below w.heap.size w W1) := by rw [← HW1.out]; exact bel_up (bel1 w _) (bel1 _ _) (Nat.le_refl _)
  have hs1 : W1.heap.size = w.heap.size + 1 + 1 := by rw [← HW1.out]; simp
  have HR : Hid (∀ W, Below W1.heap.size W1 W → W.heap[w.heap.size]? = some (.cells #[.int .i64 fr, .int .i64 whom, .int .i64 id, .int .i64 sent, .string body] 74 (0, 0)) ∧ W.heap[w.heap.size + 1]? = some (.cells #[.int .i64 0, .int .i64 0, .int .i64 0, .int .i64 0, .string ⟨#[]⟩] 32 (0, 0)) ∧ Below w.heap.size w W) := by
    intro W hW
    refine ⟨(hW.block _ (by omega)).trans ?_, (hW.block _ (by omega)).trans ?_, bel_up HB1.out hW (Nat.le_refl _)⟩
    · rw [← HW1.out, Below.heap_alloc _ _ _ (by simp)]
      exact heap_alloc_last w _
    · rw [← HW1.out]
      have := heap_alloc_last (w.alloc (.cells #[.int .i64 fr, .int .i64 whom, .int .i64 id, .int .i64 sent, .string body] 74)) (.cells #[.int .i64 0, .int .i64 0, .int .i64 0, .int .i64 0, .string ⟨#[]⟩] 32)
      simpa using this
  have HS : Hid (∀ W : World, W.heap[w.heap.size]? = some (.cells #[.int .i64 fr, .int .i64 whom, .int .i64 id, .int .i64 sent, .string body] 74 (0, 0)) → (W.cell? ⟨w.heap.size, 0, none⟩ = some (.int .i64 fr) ∧ W.cell? ⟨w.heap.size, 1, none⟩ = some (.int .i64 whom) ∧ W.cell? ⟨w.heap.size, 2, none⟩ = some (.int .i64 id) ∧ W.cell? ⟨w.heap.size, 4, none⟩ = some (.string body))) := by
    intro W hW
    obtain ⟨⟨q0, q1, q2, q3, q4⟩, _⟩ := rw5 hW
    exact ⟨q0, q1, q2, q4⟩
  have hR0 := HR.out W1 (Below.refl _ _)
  have h0 := hR0.1
  clear hR0
  have hcl := fun W => sclone_any body W hs
  go_enter Try.func35, Try.ntmps35
  go_upto_region 1 with fail
  rw [HW1.out]
  refine wp_region_held_drew (S := fun wq => wq.cell? ⟨w.heap.size, 0, none⟩ = some (.int .i64 fr) ∧ wq.cell? ⟨w.heap.size, 1, none⟩ = some (.int .i64 whom) ∧ wq.cell? ⟨w.heap.size, 2, none⟩ = some (.int .i64 id) ∧ wq.cell? ⟨w.heap.size, 4, none⟩ = some (.string body)) (by kernel_rfl) (HS.out _ h0) (fun hHeld => ?_)
  refine wpAnyH_take (i := 0) (oi := ?p0m) (v := ?v0m) ?o0m (by kernel_rfl) (by kernel_rfl) (by kernel_rfl) ?q0m ?y0m hHeld ?r0m
  case o0m => simp only [List.getElem?_toArray, List.getElem?_cons_zero]; rfl
  case q0m => exact fun _ _ _ h => h
  case y0m => (refine Or.inl ⟨rfl, ?_⟩; intro wq hq; obtain ⟨q0, q1, q2, q4⟩ := hq; go_simp; try with_reducible rfl)
  simp only [Act.put, List.setIfInBounds_toArray, List.set_cons_zero, List.set_cons_succ]
  refine wpAnyH_take (i := 1) (oi := ?p1m) (v := ?v1m) ?o1m (by kernel_rfl) (by kernel_rfl) (by kernel_rfl) ?q1m ?y1m hHeld ?r1m
  case o1m => simp only [List.getElem?_toArray, List.getElem?_cons_succ, List.getElem?_cons_zero]; rfl
  case q1m => exact fun _ _ _ h => h
  case y1m => (refine Or.inl ⟨rfl, ?_⟩; intro wq hq; obtain ⟨q0, q1, q2, q4⟩ := hq; go_simp; try with_reducible rfl)
  simp only [Act.put, List.setIfInBounds_toArray, List.set_cons_zero, List.set_cons_succ]
  refine wpAnyH_take (i := 2) (oi := ?p2m) (v := ?v2m) ?o2m (by kernel_rfl) (by kernel_rfl) (by kernel_rfl) ?q2m ?y2m hHeld ?r2m
  case o2m => simp only [List.getElem?_toArray, List.getElem?_cons_succ, List.getElem?_cons_zero]; rfl
  case q2m => exact fun _ _ _ h => h
  case y2m => (refine Or.inl ⟨rfl, ?_⟩; intro wq hq; obtain ⟨q0, q1, q2, q4⟩ := hq; go_simp; try with_reducible rfl)
  simp only [Act.put, List.setIfInBounds_toArray, List.set_cons_zero, List.set_cons_succ]
  refine wpAnyH_take (i := 3) (oi := ?p3m) (v := ?v3m) ?o3m (by kernel_rfl) (by kernel_rfl) (by kernel_rfl) ?q3m ?y3m hHeld ?r3m
  case o3m => simp only [List.getElem?_toArray, List.getElem?_cons_succ, List.getElem?_cons_zero]; rfl
  case q3m => exact fun _ _ _ h => h
  case y3m => (refine Or.inl ⟨rfl, ?_⟩; intro wq hq; obtain ⟨q0, q1, q2, q4⟩ := hq; go_simp; try with_reducible rfl)
  simp only [Act.put, List.setIfInBounds_toArray, List.set_cons_zero, List.set_cons_succ]
  refine wpAnyH_take (i := 4) (oi := ?p4m) (v := ?v4m) ?o4m (by kernel_rfl) (by kernel_rfl) (by kernel_rfl) ?q4m ?y4m hHeld ?r4m
  case o4m => simp only [List.getElem?_toArray, List.getElem?_cons_succ, List.getElem?_cons_zero]; rfl
  case q4m => exact fun _ _ _ h => h
  case y4m => (refine Or.inl ⟨rfl, ?_⟩; intro wq hq; obtain ⟨q0, q1, q2, q4⟩ := hq; go_simp; try with_reducible rfl)
  simp only [Act.put, List.setIfInBounds_toArray, List.set_cons_zero, List.set_cons_succ]
  refine wpAnyH_take (i := 5) (oi := ?p5m) (v := ?v5m) ?o5m (by kernel_rfl) (by kernel_rfl) (by kernel_rfl) ?q5m ?y5m hHeld ?r5m
  case o5m => simp only [List.getElem?_toArray, List.getElem?_cons_succ, List.getElem?_cons_zero]; rfl
  case q5m => exact fun _ _ _ h => h
  case y5m => (refine Or.inl ⟨rfl, ?_⟩; intro wq hq; obtain ⟨q0, q1, q2, q4⟩ := hq; go_simp; try with_reducible rfl)
  simp only [Act.put, List.setIfInBounds_toArray, List.set_cons_zero, List.set_cons_succ]
  refine wpAnyH_take (i := 6) (oi := ?p6m) (v := ?v6m) ?o6m (by kernel_rfl) (by kernel_rfl) (by kernel_rfl) ?q6m ?y6m hHeld ?r6m
  case o6m => simp only [List.getElem?_toArray, List.getElem?_cons_succ, List.getElem?_cons_zero]; rfl
  case q6m => exact fun _ _ _ h => h
  case y6m => (refine Or.inl ⟨rfl, ?_⟩; intro wq hq; obtain ⟨q0, q1, q2, q4⟩ := hq; go_simp; try with_reducible rfl)
  simp only [Act.put, List.setIfInBounds_toArray, List.set_cons_zero, List.set_cons_succ]
  refine wpAnyH_take (i := 7) (oi := ?p7m) (v := ?v7m) ?o7m (by kernel_rfl) (by kernel_rfl) (by kernel_rfl) ?q7m ?y7m hHeld ?r7m
  case o7m => simp only [List.getElem?_toArray, List.getElem?_cons_succ, List.getElem?_cons_zero]; rfl
  case q7m => exact fun _ _ _ h => h
  case y7m => (refine Or.inl ⟨rfl, ?_⟩; intro wq hq; obtain ⟨q0, q1, q2, q4⟩ := hq; go_simp; try with_reducible rfl)
  simp only [Act.put, List.setIfInBounds_toArray, List.set_cons_zero, List.set_cons_succ]
  refine wpAnyH_take (i := 8) (oi := ?p8m) (v := ?v8m) ?o8m (by kernel_rfl) (by kernel_rfl) (by kernel_rfl) ?q8m ?y8m hHeld ?r8m
  case o8m => simp only [List.getElem?_toArray, List.getElem?_cons_succ, List.getElem?_cons_zero]; rfl
  case q8m => exact fun _ _ _ h => h
  case y8m => (refine Or.inl ⟨rfl, ?_⟩; intro wq hq; obtain ⟨q0, q1, q2, q4⟩ := hq; go_simp; try with_reducible rfl)
  simp only [Act.put, List.setIfInBounds_toArray, List.set_cons_zero, List.set_cons_succ]
  refine wpAnyH_take (i := 9) (oi := ?p9m) (v := ?v9m) ?o9m (by kernel_rfl) (by kernel_rfl) (by kernel_rfl) ?q9m ?y9m hHeld ?r9m
  case o9m => simp only [List.getElem?_toArray, List.getElem?_cons_succ, List.getElem?_cons_zero]; rfl
  case q9m => exact fun _ _ _ h => h
  case y9m => (refine Or.inl ⟨rfl, ?_⟩; intro wq hq; obtain ⟨q0, q1, q2, q4⟩ := hq; go_simp; try with_reducible rfl)
  simp only [Act.put, List.setIfInBounds_toArray, List.set_cons_zero, List.set_cons_succ]
  refine wpAnyH_take (i := 10) (oi := ?p10m) (v := ?v10m) ?o10m (by kernel_rfl) (by kernel_rfl) (by kernel_rfl) ?q10m ?y10m hHeld ?r10m
  case o10m => simp only [List.getElem?_toArray, List.getElem?_cons_succ, List.getElem?_cons_zero]; rfl
  case q10m => exact fun _ _ _ h => h
  case y10m => (refine Or.inl ⟨rfl, ?_⟩; intro wq hq; obtain ⟨q0, q1, q2, q4⟩ := hq; go_simp; try with_reducible rfl)
  simp only [Act.put, List.setIfInBounds_toArray, List.set_cons_zero, List.set_cons_succ]
  refine wpAnyH_ready (rs := [11]) (by kernel_rfl) (by simp) ?_
  refine AllReadyH.cons (o := ?p11m) ?o11m ?s11m AllReadyH.nil
  case o11m => simp only [List.getElem?_toArray, List.getElem?_cons_succ, List.getElem?_cons_zero]; rfl
  intro K hK
  go_simp
  refine (hcl _).mono ?_
  rintro e w2 ⟨rfl, hb2⟩
  have B2 : Below W1.heap.size W1 w2 := Below.trans (Below.drew (Below.refl _ _)) hb2
  obtain ⟨h2, hbox, BW⟩ := HR.out w2 B2
  have HX : Hid (∀ v0 v1 v2 v3 v4, (st5 w2 (w.heap.size + 1) v0 v1 v2 v3 v4).heap[w.heap.size]? = some (.cells #[.int .i64 fr, .int .i64 whom, .int .i64 id, .int .i64 sent, .string body] 74 (0, 0))) := fun v0 v1 v2 v3 v4 => (st5_other w2 _ v0 v1 v2 v3 v4 _ (by omega)).trans h2
  have HQ := Hid_of (fun v0 v1 v2 v3 v4 => st5_row v0 v1 v2 v3 v4 hbox)
  have HBW := Hid_of BW
  obtain ⟨⟨x0, x1, x2, x3, x4⟩, xf⟩ := rw5 hbox
  have f0 := xf 0
  have f1 := xf 1
  have f2 := xf 2
  have f3 := xf 3
  have f4 := xf 4
  clear xf hbox BW B2 hb2
  refine hK.out _ _ (HS.out _ h2) (fun hHeld => ?_)
  clear hK K
  refine wpAnyH_take (i := 12) (oi := ?p12m) (v := ?v12m) ?o12m (by kernel_rfl) (by kernel_rfl) (by kernel_rfl) ?q12m ?y12m hHeld ?r12m
  case o12m => simp only [List.getElem?_toArray, List.getElem?_cons_succ, List.getElem?_cons_zero]; rfl
  case q12m => exact fun _ _ _ h => h
  case y12m => (refine Or.inl ⟨rfl, ?_⟩; intro wq hq; obtain ⟨q0, q1, q2, q4⟩ := hq; go_simp; try with_reducible rfl)
  simp only [Act.put, List.setIfInBounds_toArray, List.set_cons_zero, List.set_cons_succ]
  refine wpAnyH_ready (rs := [13]) (by kernel_rfl) (by simp) ?_
  refine AllReadyH.cons (o := ?p13m) ?o13m ?s13m AllReadyH.nil
  case o13m => simp only [List.getElem?_toArray, List.getElem?_cons_succ, List.getElem?_cons_zero]; rfl
  intro K hK
  go_simp
  refine hK.out _ _ (HS.out _ (HX.out _ _ _ _ _)) (fun hHeld => ?_)
  clear hK K
  refine wpAnyH_done (by kernel_rfl) ?_ _
  go_wp2
  refine bodyPost_ret (v := .agg #[.int .i64 1, .int .i64 fr, .int .i64 whom, .int .i64 id, .string body]) ?_ rfl ⟨rfl, st5_below HBW.out (by omega)⟩
  exact results_cell_row f35_res _ _ (w.heap.size + 1) 32 _ (0, 0) _ rfl (HQ.out _ _ _ _ _) Try.underlying32 rfl Try.size32
set_option maxHeartbeats 1000000 in
theorem newC_any (me first : Int) (w : World) : Calls Try.prog 9 #[.int .i64 me, .int .i64 first] w fun e w' => ∃ b bt m, e = .returned (.pointer (some ⟨b, 0, none⟩)) ∧ CI w' w.heap.size b bt m (.slice none 0 0) (.slice none 0 0) 0 (Cl.node me) (Cl.start first) [] [] (fun _ => none) ∧ Below w.heap.size w w' := by
  have hmm := @run_makeMap Try.prog
  go_enter Try.func9, Try.ntmps9
  go_wp2_with fail
  refine (new_any w).mono ?_
  rintro e w1 ⟨rfl, hx, hb⟩
  have HX := Hid_of hx
  have HB := Hid_of hb
  clear hx hb
  have HI : Hid (CI ((w1.alloc (.map #[] 0)).alloc (.cells #[.int .i64 (Cl.node me), .int .i64 (Cl.start first), .pointer (some ⟨w.heap.size, 0, none⟩), .slice none 0 0, .map (some w1.heap.size)] 66)) w.heap.size (w1.heap.size + 1) w.heap.size w1.heap.size (.slice none 0 0) (.slice none 0 0) 0 (Cl.node me) (Cl.start first) [] [] (fun _ => none) ∧ Below w.heap.size w ((w1.alloc (.map #[] 0)).alloc (.cells #[.int .i64 (Cl.node me), .int .i64 (Cl.start first), .pointer (some ⟨w.heap.size, 0, none⟩), .slice none 0 0, .map (some w1.heap.size)] 66))) := by
    have hlt := HX.out.lt
    have hsz := HB.out.size
    have hb2 := bel1 (w1.alloc (.map #[] 0)) (.cells #[.int .i64 (Cl.node me), .int .i64 (Cl.start first), .pointer (some ⟨w.heap.size, 0, none⟩), .slice none 0 0, .map (some w1.heap.size)] 66)
    have hb1 := bel1 w1 (.map #[] 0)
    have hr := heap_alloc_last (w1.alloc (.map #[] 0)) (.cells #[.int .i64 (Cl.node me), .int .i64 (Cl.start first), .pointer (some ⟨w.heap.size, 0, none⟩), .slice none 0 0, .map (some w1.heap.size)] 66)
    have hz : (w1.alloc (.map #[] 0)).heap.size = w1.heap.size + 1 := by simp
    rw [hz] at hr
    have hm := MI.made w1
    exact ⟨⟨hr, (HX.out.keep hb1).keep hb2, OwnL.nil _ _ _, hm.keep (hb2.block _ hm.lt), ⟨by omega, by simp [Value.ownBlock], by simp [Value.ownBlock]⟩, ⟨by simp [Value.ownBlock], by simp [Value.ownBlock], by simp [Value.ownBlock]⟩, fun k e => by simp [Value.ownBlock] at e, ⟨by omega, Nat.le_refl _, hsz⟩⟩, bel_up (bel_up HB.out hb1 (Nat.le_refl _)) hb2 (Nat.le_refl _)⟩
  unfold Cl.node Cl.start at HI
  go_wp2
  go_ret
  exact ⟨_, _, _, rfl, HI.out⟩
end Go.Proofs.Ytbgbdiiinggjnaa
