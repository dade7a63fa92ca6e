/-
  The order of ballots is one.
-/
import Derived.Test.YtkohbjpinoonmaaH
namespace Go.Proofs.Ytkohbjpinoonmaa
open Go.RowKit
set_option linter.unusedVariables false
open M (E V)

set_option maxHeartbeats 2000000 in
theorem combos (a b c : E) : (M.cmpE a b = -1 ∧ M.cmpE b a = 1 ∧ (decide (a.i = b.i) && decide (a.t = b.t)) = false ∧ ((M.cmpE b c = -1 ∧ M.cmpE a c = -1) ∨ (M.cmpE b c = 0 ∧ M.cmpE a c = -1) ∨ (M.cmpE b c = 1 ∧ M.cmpE a c = -1) ∨ (M.cmpE b c = 1 ∧ M.cmpE a c = 0) ∨ (M.cmpE b c = 1 ∧ M.cmpE a c = 1))) ∨
    (M.cmpE a b = 0 ∧ M.cmpE b a = 0 ∧ (decide (a.i = b.i) && decide (a.t = b.t)) = true ∧ ((M.cmpE b c = -1 ∧ M.cmpE a c = -1) ∨ (M.cmpE b c = 0 ∧ M.cmpE a c = 0) ∨ (M.cmpE b c = 1 ∧ M.cmpE a c = 1))) ∨
    (M.cmpE a b = 1 ∧ M.cmpE b a = -1 ∧ (decide (a.i = b.i) && decide (a.t = b.t)) = false ∧ ((M.cmpE b c = -1 ∧ M.cmpE a c = -1) ∨ (M.cmpE b c = -1 ∧ M.cmpE a c = 0) ∨ (M.cmpE b c = -1 ∧ M.cmpE a c = 1) ∨ (M.cmpE b c = 0 ∧ M.cmpE a c = 1) ∨ (M.cmpE b c = 1 ∧ M.cmpE a c = 1))) := by
  have hb : ((decide (a.i = b.i) && decide (a.t = b.t)) = true) ↔ (a.i = b.i ∧ a.t = b.t) := by simp
  have hb' : ((decide (a.i = b.i) && decide (a.t = b.t)) = false) ↔ ¬ (a.i = b.i ∧ a.t = b.t) := by rw [← hb]; simp
  rw [hb, hb']
  clear hb hb'
  have e1 := (M.order a b c).1
  rcases M.cmpE_three a b with ⟨h, e⟩ | ⟨h, e⟩ | ⟨h, e⟩ <;> rcases M.cmpE_three b c with ⟨h2, e2⟩ | ⟨h2, e2⟩ | ⟨h2, e2⟩ <;> rcases M.cmpE_three a c with ⟨h3, e3⟩ | ⟨h3, e3⟩ | ⟨h3, e3⟩ <;> rw [e1, e, e2, e3] <;> clear e1 e e2 e3 <;> first | (exfalso; omega) | (simp; done) | (simp; omega)
set_option maxRecDepth 100000 in
set_option maxHeartbeats 4000000 in
theorem order_walk (a b c : E) (w : World) : Calls Try.prog 5 #[.agg #[.int .i64 a.i, .int .i64 a.t], .agg #[.int .i64 b.i, .int .i64 b.t], .agg #[.int .i64 c.i, .int .i64 c.t]] w fun e w' => e = .returned (.bool true) ∧ Below w.heap.size w w' := by
  obtain ⟨W1, HW1⟩ : ∃ W1, Hid (((w.alloc (.cells #[.int .i64 a.i, .int .i64 a.t] 23)).alloc (.cells #[.int .i64 b.i, .int .i64 b.t] 23)).alloc (.cells #[.int .i64 c.i, .int .i64 c.t] 23) = W1) := ⟨_, Hid_of rfl⟩
  have HB1 : Hid (Below w.heap.size w W1) := by rw [← HW1.out]; exact bel_up (bel_up (bel1 w _) (bel1 _ _) (Nat.le_refl _)) (bel1 _ _) (Nat.le_refl _)
  have HS : Hid (∀ w', Below W1.heap.size W1 w' → (w'.cell? ⟨w.heap.size, 0, none⟩ = some (.int .i64 a.i) ∧ w'.cell? ⟨w.heap.size, 1, none⟩ = some (.int .i64 a.t)) ∧ (w'.cell? ⟨w.heap.size + 1, 0, none⟩ = some (.int .i64 b.i) ∧ w'.cell? ⟨w.heap.size + 1, 1, none⟩ = some (.int .i64 b.t)) ∧ (w'.cell? ⟨w.heap.size + 2, 0, none⟩ = some (.int .i64 c.i) ∧ w'.cell? ⟨w.heap.size + 2, 1, none⟩ = some (.int .i64 c.t))) := fun w' hw' => by
    have h1 : W1.heap[w.heap.size]? = some (.cells #[.int .i64 a.i, .int .i64 a.t] 23 (0, 0)) := by rw [← HW1.out]; exact bel_row (heap_alloc2_old w _ _) (bel1 _ _)
    have h2 : W1.heap[w.heap.size + 1]? = some (.cells #[.int .i64 b.i, .int .i64 b.t] 23 (0, 0)) := by rw [← HW1.out]; exact bel_row (heap_alloc2_new w _ _) (bel1 _ _)
    have h3 : W1.heap[w.heap.size + 2]? = some (.cells #[.int .i64 c.i, .int .i64 c.t] 23 (0, 0)) := by
      have := heap_alloc_last ((w.alloc (.cells #[.int .i64 a.i, .int .i64 a.t] 23)).alloc (.cells #[.int .i64 b.i, .int .i64 b.t] 23)) (.cells #[.int .i64 c.i, .int .i64 c.t] 23)
      rw [HW1.out] at this
      simpa using this
    exact ⟨(row2 (bel_row h1 hw')).1, (row2 (bel_row h2 hw')).1, (row2 (bel_row h3 hw')).1⟩
  have HD := Hid_of (combos a b c)
  have e1 := eq23 a.i a.t b.i b.t
  have HC1 := Hid_of (cmp_any a b)
  have HC2 := Hid_of (cmp_any b c)
  have HC3 := Hid_of (cmp_any a c)
  have HC4 := Hid_of (cmp_any b a)
  generalize (decide (a.i = b.i) && decide (a.t = b.t)) = bb at *
  generalize M.cmpE a b = r1 at *
  generalize M.cmpE b c = r2 at *
  generalize M.cmpE a c = r3 at *
  generalize M.cmpE b a = r4 at *
  go_enter Try.func5, Try.ntmps5
  go_upto_region 1 with fail
  rw [HW1.out]
  clear HW1
  refine wp_region_held_drew (S := fun wq => Below (W1).heap.size (W1) wq) (by kernel_rfl) (Below.drew (Below.refl _ _)) (fun hHeld => ?_)
  refine wpAnyH_take (i := 0) (oi := ?p0a) (v := ?v0a) ?o0a (by kernel_rfl) (by kernel_rfl) (by kernel_rfl) ?q0a ?y0a hHeld ?r0a
  case o0a => simp only [List.getElem?_toArray, List.getElem?_cons_zero]; rfl
  case q0a => exact fun _ _ _ h => h
  case y0a => (refine Or.inl ⟨rfl, ?_⟩; intro wq hq; obtain ⟨⟨a0, a1⟩, ⟨b0, b1⟩, ⟨c0, c1⟩⟩ := HS.out wq hq; go_simp; try with_reducible rfl)
  simp only [Act.put, List.setIfInBounds_toArray, List.set_cons_zero, List.set_cons_succ]
  refine wpAnyH_take (i := 1) (oi := ?p1a) (v := ?v1a) ?o1a (by kernel_rfl) (by kernel_rfl) (by kernel_rfl) ?q1a ?y1a hHeld ?r1a
  case o1a => simp only [List.getElem?_toArray, List.getElem?_cons_succ, List.getElem?_cons_zero]; rfl
  case q1a => exact fun _ _ _ h => h
  case y1a => (refine Or.inl ⟨rfl, ?_⟩; intro wq hq; obtain ⟨⟨a0, a1⟩, ⟨b0, b1⟩, ⟨c0, c1⟩⟩ := HS.out wq hq; go_simp; try with_reducible rfl)
  simp only [Act.put, List.setIfInBounds_toArray, List.set_cons_zero, List.set_cons_succ]
  refine wpAnyH_take (i := 3) (oi := ?p3a) (v := ?v3a) ?o3a (by kernel_rfl) (by kernel_rfl) (by kernel_rfl) ?q3a ?y3a hHeld ?r3a
  case o3a => simp only [List.getElem?_toArray, List.getElem?_cons_succ, List.getElem?_cons_zero]; rfl
  case q3a => exact fun _ _ _ h => h
  case y3a => (refine Or.inl ⟨rfl, ?_⟩; intro wq hq; obtain ⟨⟨a0, a1⟩, ⟨b0, b1⟩, ⟨c0, c1⟩⟩ := HS.out wq hq; go_simp; try with_reducible rfl)
  simp only [Act.put, List.setIfInBounds_toArray, List.set_cons_zero, List.set_cons_succ]
  refine wpAnyH_take (i := 4) (oi := ?p4a) (v := ?v4a) ?o4a (by kernel_rfl) (by kernel_rfl) (by kernel_rfl) ?q4a ?y4a hHeld ?r4a
  case o4a => simp only [List.getElem?_toArray, List.getElem?_cons_succ, List.getElem?_cons_zero]; rfl
  case q4a => exact fun _ _ _ h => h
  case y4a => (refine Or.inl ⟨rfl, ?_⟩; intro wq hq; obtain ⟨⟨a0, a1⟩, ⟨b0, b1⟩, ⟨c0, c1⟩⟩ := HS.out wq hq; go_simp; try with_reducible rfl)
  simp only [Act.put, List.setIfInBounds_toArray, List.set_cons_zero, List.set_cons_succ]
  refine wpAnyH_take (i := 6) (oi := ?p6a) (v := ?v6a) ?o6a (by kernel_rfl) (by kernel_rfl) (by kernel_rfl) ?q6a ?y6a hHeld ?r6a
  case o6a => simp only [List.getElem?_toArray, List.getElem?_cons_succ, List.getElem?_cons_zero]; rfl
  case q6a => exact fun _ _ _ h => h
  case y6a => (refine Or.inl ⟨rfl, ?_⟩; intro wq hq; obtain ⟨⟨a0, a1⟩, ⟨b0, b1⟩, ⟨c0, c1⟩⟩ := HS.out wq hq; go_simp; try with_reducible rfl)
  simp only [Act.put, List.setIfInBounds_toArray, List.set_cons_zero, List.set_cons_succ]
  refine wpAnyH_take (i := 7) (oi := ?p7a) (v := ?v7a) ?o7a (by kernel_rfl) (by kernel_rfl) (by kernel_rfl) ?q7a ?y7a hHeld ?r7a
  case o7a => simp only [List.getElem?_toArray, List.getElem?_cons_succ, List.getElem?_cons_zero]; rfl
  case q7a => exact fun _ _ _ h => h
  case y7a => (refine Or.inl ⟨rfl, ?_⟩; intro wq hq; obtain ⟨⟨a0, a1⟩, ⟨b0, b1⟩, ⟨c0, c1⟩⟩ := HS.out wq hq; go_simp; try with_reducible rfl)
  simp only [Act.put, List.setIfInBounds_toArray, List.set_cons_zero, List.set_cons_succ]
  refine wpAnyH_ready (rs := [2]) (by kernel_rfl) (by simp) ?_
  refine AllReadyH.cons (o := ?p2a) ?o2a ?s2a AllReadyH.nil
  case o2a => simp only [List.getElem?_toArray, List.getElem?_cons_succ, List.getElem?_cons_zero]; rfl
  intro K hK
  go_simp
  refine (HC1.out _).mono ?_
  rintro e v2 ⟨rfl, hb⟩
  have B2 : Below W1.heap.size W1 v2 := hHeld.trans (hb.mono hHeld.size)
  clear hb
  refine hK.out _ _ B2 (fun hHeld => ?_)
  clear hK K
  refine wpAnyH_ready (rs := [5]) (by kernel_rfl) (by simp) ?_
  refine AllReadyH.cons (o := ?p5a) ?o5a ?s5a AllReadyH.nil
  case o5a => simp only [List.getElem?_toArray, List.getElem?_cons_succ, List.getElem?_cons_zero]; rfl
  intro K hK
  go_simp
  refine (HC2.out _).mono ?_
  rintro e v5 ⟨rfl, hb⟩
  have B5 : Below W1.heap.size W1 v5 := hHeld.trans (hb.mono hHeld.size)
  clear hb
  refine hK.out _ _ B5 (fun hHeld => ?_)
  clear hK K
  refine wpAnyH_ready (rs := [8]) (by kernel_rfl) (by simp) ?_
  refine AllReadyH.cons (o := ?p8a) ?o8a ?s8a AllReadyH.nil
  case o8a => simp only [List.getElem?_toArray, List.getElem?_cons_succ, List.getElem?_cons_zero]; rfl
  intro K hK
  go_simp
  refine (HC3.out _).mono ?_
  rintro e v8 ⟨rfl, hb⟩
  have B8 : Below W1.heap.size W1 v8 := hHeld.trans (hb.mono hHeld.size)
  clear hb
  refine hK.out _ _ B8 (fun hHeld => ?_)
  clear hK K
  refine wpAnyH_take (i := 9) (oi := ?p9a) (v := ?v9a) ?o9a (by kernel_rfl) (by kernel_rfl) (by kernel_rfl) ?q9a ?y9a hHeld ?r9a
  case o9a => simp only [List.getElem?_toArray, List.getElem?_cons_succ, List.getElem?_cons_zero]; rfl
  case q9a => exact fun _ _ _ h => h
  case y9a => (refine Or.inl ⟨rfl, ?_⟩; intro wq hq; obtain ⟨⟨a0, a1⟩, ⟨b0, b1⟩, ⟨c0, c1⟩⟩ := HS.out wq hq; go_simp; try with_reducible rfl)
  simp only [Act.put, List.setIfInBounds_toArray, List.set_cons_zero, List.set_cons_succ]
  refine wpAnyH_take (i := 10) (oi := ?p10a) (v := ?v10a) ?o10a (by kernel_rfl) (by kernel_rfl) (by kernel_rfl) ?q10a ?y10a hHeld ?r10a
  case o10a => simp only [List.getElem?_toArray, List.getElem?_cons_succ, List.getElem?_cons_zero]; rfl
  case q10a => exact fun _ _ _ h => h
  case y10a => (refine Or.inl ⟨rfl, ?_⟩; intro wq hq; obtain ⟨⟨a0, a1⟩, ⟨b0, b1⟩, ⟨c0, c1⟩⟩ := HS.out wq hq; go_simp; try with_reducible rfl)
  simp only [Act.put, List.setIfInBounds_toArray, List.set_cons_zero, List.set_cons_succ]
  refine wpAnyH_take (i := 11) (oi := ?p11a) (v := ?v11a) ?o11a (by kernel_rfl) (by kernel_rfl) (by kernel_rfl) ?q11a ?y11a hHeld ?r11a
  case o11a => simp only [List.getElem?_toArray, List.getElem?_cons_succ, List.getElem?_cons_zero]; rfl
  case q11a => exact fun _ _ _ h => h
  case y11a => (refine Or.inl ⟨rfl, ?_⟩; intro wq hq; obtain ⟨⟨a0, a1⟩, ⟨b0, b1⟩, ⟨c0, c1⟩⟩ := HS.out wq hq; go_simp; try with_reducible rfl)
  simp only [Act.put, List.setIfInBounds_toArray, List.set_cons_zero, List.set_cons_succ]
  refine wpAnyH_done (by kernel_rfl) ?_ _
  have HBq := Hid_of (bel_up HB1.out hHeld (Nat.le_refl _))
  obtain ⟨⟨a0, a1⟩, ⟨b0, b1⟩, -⟩ := HS.out _ hHeld
  have HT : Hid (∀ w', Below v8.heap.size v8 w' → (w'.cell? ⟨w.heap.size, 0, none⟩ = some (.int .i64 a.i) ∧ w'.cell? ⟨w.heap.size, 1, none⟩ = some (.int .i64 a.t)) ∧ (w'.cell? ⟨w.heap.size + 1, 0, none⟩ = some (.int .i64 b.i) ∧ w'.cell? ⟨w.heap.size + 1, 1, none⟩ = some (.int .i64 b.t))) := fun w' hw' => by
    have h := HS.out w' (hHeld.trans (hw'.mono hHeld.size))
    exact ⟨h.1, h.2.1⟩
  clear HB1 HS HC1 HC2 HC3 B2 B5 B8 hHeld
  go_upto_region 2 with fail
  rcases HD.out with ⟨h1, h2, h3, h⟩ | ⟨h1, h2, h3, h⟩ | ⟨h1, h2, h3, h⟩
  · subst h1 h2 h3
    rcases h with ⟨h1, h2⟩ | ⟨h1, h2⟩ | ⟨h1, h2⟩ | ⟨h1, h2⟩ | ⟨h1, h2⟩
    all_goals
      subst h1 h2
      clear HD
      go_wp2_with fail
      refine (HC4.out _).mono ?_
      rintro e w9 ⟨rfl, hb9⟩
      have HB9 := Hid_of (bel_up HBq.out hb9 (Nat.le_refl _))
      obtain ⟨⟨x0, x1⟩, ⟨y0, y1⟩⟩ := HT.out _ hb9
      clear a0 a1 b0 b1 hb9
      go_wp2_with fail
      refine (awake_any _).mono ?_
      rintro e w10 ⟨rfl, hb10⟩
      have HB10 := Hid_of (bel_up HB9.out hb10 (Nat.le_refl _))
      clear hb10
      go_wp2
      go_ret
      exact ⟨rfl, HB10.out⟩
  · subst h1 h2 h3
    rcases h with ⟨h1, h2⟩ | ⟨h1, h2⟩ | ⟨h1, h2⟩
    all_goals
      subst h1 h2
      clear HD
      go_wp2_with fail
      refine (HC4.out _).mono ?_
      rintro e w9 ⟨rfl, hb9⟩
      have HB9 := Hid_of (bel_up HBq.out hb9 (Nat.le_refl _))
      obtain ⟨⟨x0, x1⟩, ⟨y0, y1⟩⟩ := HT.out _ hb9
      clear a0 a1 b0 b1 hb9
      go_wp2_with fail
      refine (awake_any _).mono ?_
      rintro e w10 ⟨rfl, hb10⟩
      have HB10 := Hid_of (bel_up HB9.out hb10 (Nat.le_refl _))
      clear hb10
      go_wp2
      go_ret
      exact ⟨rfl, HB10.out⟩
  · subst h1 h2 h3
    rcases h with ⟨h1, h2⟩ | ⟨h1, h2⟩ | ⟨h1, h2⟩ | ⟨h1, h2⟩ | ⟨h1, h2⟩
    all_goals
      subst h1 h2
      clear HD
      go_wp2_with fail
      refine (HC4.out _).mono ?_
      rintro e w9 ⟨rfl, hb9⟩
      have HB9 := Hid_of (bel_up HBq.out hb9 (Nat.le_refl _))
      obtain ⟨⟨x0, x1⟩, ⟨y0, y1⟩⟩ := HT.out _ hb9
      clear a0 a1 b0 b1 hb9
      go_wp2_with fail
      refine (awake_any _).mono ?_
      rintro e w10 ⟨rfl, hb10⟩
      have HB10 := Hid_of (bel_up HB9.out hb10 (Nat.le_refl _))
      clear hb10
      go_wp2
      go_ret
      exact ⟨rfl, HB10.out⟩
end Go.Proofs.Ytkohbjpinoonmaa
