/-
  Pieces by value: whether two are one.
-/
import Derived.Test.YtajgjkkggppbiaaB
namespace Go.Proofs.Ytajgjkkggppbiaa
open Go.RowKit
set_option linter.unusedVariables false
open M (E)

def fol (p q : E) : Bool := (p.d == q.d) && (p.a + p.n == q.a) && (p.f + p.n == q.f)
theorem fol_iff (p q : E) : fol p q = true ↔ M.Fol p q := by simp [fol, M.Fol, and_assoc]
theorem fol_no (p q : E) : fol p q = false ↔ ¬ M.Fol p q := by rw [← fol_iff]; simp
set_option maxRecDepth 100000 in
set_option maxHeartbeats 2000000 in
theorem follows_any (a n d f a' n' d' f' : Int) (w : World) (ha : Sm a) (hn : Sm n) (hf : Sm f) :
    Calls Try.prog 38 #[.agg #[.int .i64 a, .int .i64 n, .int .i64 d, .int .i64 f], .agg #[.int .i64 a', .int .i64 n', .int .i64 d', .int .i64 f']] w fun x w' => x = .returned (.bool (fol ⟨a, n, d, f⟩ ⟨a', n', d', f'⟩)) ∧ Below w.heap.size w w' := by
  have hw : IntKind.i64.wrap (f + n) = f + n := by rw [IntKind.wrap_i64]; unfold Sm at *; omega
  have HE : Hid (fol ⟨a, n, d, f⟩ ⟨a', n', d', f'⟩ = ((d == d') && (a + n == a') && (f + n == f'))) := rfl
  have HA : Hid (Sm a) := ha
  have HN : Hid (Sm n) := hn
  obtain ⟨W2, HW2⟩ : ∃ W2, Hid ((w.alloc (.cells #[.int .i64 a, .int .i64 n, .int .i64 d, .int .i64 f] 32)).alloc (.cells #[.int .i64 a', .int .i64 n', .int .i64 d', .int .i64 f'] 32) = W2) := ⟨_, rfl⟩
  have HB2 : Hid (Below w.heap.size w W2) := by rw [← HW2.out]; exact (bel1 w _).alloc (by simp) _
  have HS : Hid (∀ w', Below W2.heap.size W2 w' → (w'.cell? ⟨w.heap.size, 0, none⟩ = some (.int .i64 a) ∧ w'.cell? ⟨w.heap.size, 1, none⟩ = some (.int .i64 n) ∧ w'.cell? ⟨w.heap.size, 2, none⟩ = some (.int .i64 d) ∧ w'.cell? ⟨w.heap.size, 3, none⟩ = some (.int .i64 f)) ∧ (w'.cell? ⟨w.heap.size + 1, 0, none⟩ = some (.int .i64 a') ∧ w'.cell? ⟨w.heap.size + 1, 1, none⟩ = some (.int .i64 n') ∧ w'.cell? ⟨w.heap.size + 1, 2, none⟩ = some (.int .i64 d') ∧ w'.cell? ⟨w.heap.size + 1, 3, none⟩ = some (.int .i64 f'))) := by
    intro w' hb
    have h1 := hb.block w.heap.size (by rw [← HW2.out]; simp; omega)
    have h2 := hb.block (w.heap.size + 1) (by rw [← HW2.out]; simp)
    rw [← HW2.out] at h1 h2
    rw [heap_alloc2_old] at h1
    rw [heap_alloc2_new] at h2
    exact ⟨row4 h1, row4 h2⟩
  clear ha hn hf
  go_enter Try.func38, Try.ntmps38
  go_wp2_with fail
  rw [HW2.out]
  clear HW2
  cases e1 : (d == d')
  · rw [e1] at HE
    refine wp_region_held_drew (S := fun wq => Below (W2).heap.size (W2) wq) (by kernel_rfl) (Below.drew (Below.refl _ _)) (fun hHeld => ?_)
    refine wpAnyH_take (i := 0) (oi := ?p0a) (v := ?v0a) ?o0a (by kernel_rfl) (by kernel_rfl) (by kernel_rfl) ?q0a ?y0a hHeld ?r0a
    case o0a => simp only [List.getElem?_toArray, List.getElem?_cons_zero]; rfl
    case q0a => exact fun _ _ _ h => h
    case y0a => (refine Or.inl ⟨rfl, ?_⟩; intro wq hq; obtain ⟨⟨a0, a1, a2, a3⟩, b0, b1, b2, b3⟩ := HS.out wq hq; go_simp; try with_reducible rfl)
    simp only [Act.put, List.setIfInBounds_toArray, List.set_cons_zero, List.set_cons_succ]
    refine wpAnyH_take (i := 1) (oi := ?p1a) (v := ?v1a) ?o1a (by kernel_rfl) (by kernel_rfl) (by kernel_rfl) ?q1a ?y1a hHeld ?r1a
    case o1a => simp only [List.getElem?_toArray, List.getElem?_cons_succ, List.getElem?_cons_zero]; rfl
    case q1a => exact fun _ _ _ h => h
    case y1a => (refine Or.inl ⟨rfl, ?_⟩; intro wq hq; obtain ⟨⟨a0, a1, a2, a3⟩, b0, b1, b2, b3⟩ := HS.out wq hq; go_simp; try with_reducible rfl)
    simp only [Act.put, List.setIfInBounds_toArray, List.set_cons_zero, List.set_cons_succ]
    refine wpAnyH_take (i := 2) (oi := ?p2a) (v := ?v2a) ?o2a (by kernel_rfl) (by kernel_rfl) (by kernel_rfl) ?q2a ?y2a hHeld ?r2a
    case o2a => simp only [List.getElem?_toArray, List.getElem?_cons_succ, List.getElem?_cons_zero]; rfl
    case q2a => exact fun _ _ _ h => h
    case y2a => (refine Or.inl ⟨rfl, ?_⟩; intro wq hq; obtain ⟨⟨a0, a1, a2, a3⟩, b0, b1, b2, b3⟩ := HS.out wq hq; go_simp; try with_reducible rfl)
    simp only [Act.put, List.setIfInBounds_toArray, List.set_cons_zero, List.set_cons_succ]
    refine wpAnyH_take (i := 3) (oi := ?p3a) (v := ?v3a) ?o3a (by kernel_rfl) (by kernel_rfl) (by kernel_rfl) ?q3a ?y3a hHeld ?r3a
    case o3a => simp only [List.getElem?_toArray, List.getElem?_cons_succ, List.getElem?_cons_zero]; rfl
    case q3a => exact fun _ _ _ h => h
    case y3a => (refine Or.inl ⟨rfl, ?_⟩; intro wq hq; obtain ⟨⟨a0, a1, a2, a3⟩, b0, b1, b2, b3⟩ := HS.out wq hq; go_simp; try with_reducible rfl)
    simp only [Act.put, List.setIfInBounds_toArray, List.set_cons_zero, List.set_cons_succ]
    refine wpAnyH_take (i := 4) (oi := ?p4a) (v := ?v4a) ?o4a (by kernel_rfl) (by kernel_rfl) (by kernel_rfl) ?q4a ?y4a hHeld ?r4a
    case o4a => simp only [List.getElem?_toArray, List.getElem?_cons_succ, List.getElem?_cons_zero]; rfl
    case q4a => exact fun _ _ _ h => h
    case y4a => (refine Or.inl ⟨rfl, ?_⟩; intro wq hq; obtain ⟨⟨a0, a1, a2, a3⟩, b0, b1, b2, b3⟩ := HS.out wq hq; go_simp; try with_reducible rfl)
    simp only [Act.put, List.setIfInBounds_toArray, List.set_cons_zero, List.set_cons_succ]
    refine wpAnyH_take (i := 5) (oi := ?p5a) (v := ?v5a) ?o5a (by kernel_rfl) (by kernel_rfl) (by kernel_rfl) ?q5a ?y5a hHeld ?r5a
    case o5a => simp only [List.getElem?_toArray, List.getElem?_cons_succ, List.getElem?_cons_zero]; rfl
    case q5a => exact fun _ _ _ h => h
    case y5a => (refine Or.inl ⟨rfl, ?_⟩; intro wq hq; obtain ⟨⟨a0, a1, a2, a3⟩, b0, b1, b2, b3⟩ := HS.out wq hq; go_simp; try with_reducible rfl)
    simp only [Act.put, List.setIfInBounds_toArray, List.set_cons_zero, List.set_cons_succ]
    refine wpAnyH_take (i := 6) (oi := ?p6a) (v := undef) ?o6a (by kernel_rfl) (by kernel_rfl) (by kernel_rfl) ?q6a ?y6a hHeld ?r6a
    case o6a => simp only [List.getElem?_toArray, List.getElem?_cons_succ, List.getElem?_cons_zero]; rfl
    case q6a => exact fun _ _ _ h => h
    case y6a => exact Or.inr ⟨rfl, rfl⟩
    simp only [Act.put, List.setIfInBounds_toArray, List.set_cons_zero, List.set_cons_succ]
    refine wpAnyH_take (i := 7) (oi := ?p7a) (v := undef) ?o7a (by kernel_rfl) (by kernel_rfl) (by kernel_rfl) ?q7a ?y7a hHeld ?r7a
    case o7a => simp only [List.getElem?_toArray, List.getElem?_cons_succ, List.getElem?_cons_zero]; rfl
    case q7a => exact fun _ _ _ h => h
    case y7a => exact Or.inr ⟨rfl, rfl⟩
    simp only [Act.put, List.setIfInBounds_toArray, List.set_cons_zero, List.set_cons_succ]
    refine wpAnyH_take (i := 8) (oi := ?p8a) (v := undef) ?o8a (by kernel_rfl) (by kernel_rfl) (by kernel_rfl) ?q8a ?y8a hHeld ?r8a
    case o8a => simp only [List.getElem?_toArray, List.getElem?_cons_succ, List.getElem?_cons_zero]; rfl
    case q8a => exact fun _ _ _ h => h
    case y8a => exact Or.inr ⟨rfl, rfl⟩
    simp only [Act.put, List.setIfInBounds_toArray, List.set_cons_zero, List.set_cons_succ]
    refine wpAnyH_take (i := 9) (oi := ?p9a) (v := undef) ?o9a (by kernel_rfl) (by kernel_rfl) (by kernel_rfl) ?q9a ?y9a hHeld ?r9a
    case o9a => simp only [List.getElem?_toArray, List.getElem?_cons_succ, List.getElem?_cons_zero]; rfl
    case q9a => exact fun _ _ _ h => h
    case y9a => exact Or.inr ⟨rfl, rfl⟩
    simp only [Act.put, List.setIfInBounds_toArray, List.set_cons_zero, List.set_cons_succ]
    refine wpAnyH_take (i := 10) (oi := ?p10a) (v := undef) ?o10a (by kernel_rfl) (by kernel_rfl) (by kernel_rfl) ?q10a ?y10a hHeld ?r10a
    case o10a => simp only [List.getElem?_toArray, List.getElem?_cons_succ, List.getElem?_cons_zero]; rfl
    case q10a => exact fun _ _ _ h => h
    case y10a => exact Or.inr ⟨rfl, rfl⟩
    simp only [Act.put, List.setIfInBounds_toArray, List.set_cons_zero, List.set_cons_succ]
    refine wpAnyH_take (i := 11) (oi := ?p11a) (v := ?v11a) ?o11a (by kernel_rfl) (by kernel_rfl) (by kernel_rfl) ?q11a ?y11a hHeld ?r11a
    case o11a => simp only [List.getElem?_toArray, List.getElem?_cons_succ, List.getElem?_cons_zero]; rfl
    case q11a => exact fun _ _ _ h => h
    case y11a => (refine Or.inl ⟨rfl, ?_⟩; intro wq hq; obtain ⟨⟨a0, a1, a2, a3⟩, b0, b1, b2, b3⟩ := HS.out wq hq; go_simp; try with_reducible rfl)
    simp only [Act.put, List.setIfInBounds_toArray, List.set_cons_zero, List.set_cons_succ]
    refine wpAnyH_take (i := 12) (oi := ?p12a) (v := ?v12a) ?o12a (by kernel_rfl) (by kernel_rfl) (by kernel_rfl) ?q12a ?y12a hHeld ?r12a
    case o12a => simp only [List.getElem?_toArray, List.getElem?_cons_succ, List.getElem?_cons_zero]; rfl
    case q12a => exact fun _ _ _ h => h
    case y12a => (refine Or.inl ⟨rfl, ?_⟩; intro wq hq; obtain ⟨⟨a0, a1, a2, a3⟩, b0, b1, b2, b3⟩ := HS.out wq hq; go_simp; try with_reducible rfl)
    simp only [Act.put, List.setIfInBounds_toArray, List.set_cons_zero, List.set_cons_succ]
    refine wpAnyH_take (i := 13) (oi := ?p13a) (v := undef) ?o13a (by kernel_rfl) (by kernel_rfl) (by kernel_rfl) ?q13a ?y13a hHeld ?r13a
    case o13a => simp only [List.getElem?_toArray, List.getElem?_cons_succ, List.getElem?_cons_zero]; rfl
    case q13a => exact fun _ _ _ h => h
    case y13a => exact Or.inr ⟨rfl, rfl⟩
    simp only [Act.put, List.setIfInBounds_toArray, List.set_cons_zero, List.set_cons_succ]
    refine wpAnyH_take (i := 14) (oi := ?p14a) (v := undef) ?o14a (by kernel_rfl) (by kernel_rfl) (by kernel_rfl) ?q14a ?y14a hHeld ?r14a
    case o14a => simp only [List.getElem?_toArray, List.getElem?_cons_succ, List.getElem?_cons_zero]; rfl
    case q14a => exact fun _ _ _ h => h
    case y14a => exact Or.inr ⟨rfl, rfl⟩
    simp only [Act.put, List.setIfInBounds_toArray, List.set_cons_zero, List.set_cons_succ]
    refine wpAnyH_take (i := 15) (oi := ?p15a) (v := undef) ?o15a (by kernel_rfl) (by kernel_rfl) (by kernel_rfl) ?q15a ?y15a hHeld ?r15a
    case o15a => simp only [List.getElem?_toArray, List.getElem?_cons_succ, List.getElem?_cons_zero]; rfl
    case q15a => exact fun _ _ _ h => h
    case y15a => exact Or.inr ⟨rfl, rfl⟩
    simp only [Act.put, List.setIfInBounds_toArray, List.set_cons_zero, List.set_cons_succ]
    refine wpAnyH_take (i := 16) (oi := ?p16a) (v := undef) ?o16a (by kernel_rfl) (by kernel_rfl) (by kernel_rfl) ?q16a ?y16a hHeld ?r16a
    case o16a => simp only [List.getElem?_toArray, List.getElem?_cons_succ, List.getElem?_cons_zero]; rfl
    case q16a => exact fun _ _ _ h => h
    case y16a => exact Or.inr ⟨rfl, rfl⟩
    simp only [Act.put, List.setIfInBounds_toArray, List.set_cons_zero, List.set_cons_succ]
    refine wpAnyH_take (i := 17) (oi := ?p17a) (v := undef) ?o17a (by kernel_rfl) (by kernel_rfl) (by kernel_rfl) ?q17a ?y17a hHeld ?r17a
    case o17a => simp only [List.getElem?_toArray, List.getElem?_cons_succ, List.getElem?_cons_zero]; rfl
    case q17a => exact fun _ _ _ h => h
    case y17a => exact Or.inr ⟨rfl, rfl⟩
    simp only [Act.put, List.setIfInBounds_toArray, List.set_cons_zero, List.set_cons_succ]
    refine wpAnyH_take (i := 18) (oi := ?p18a) (v := undef) ?o18a (by kernel_rfl) (by kernel_rfl) (by kernel_rfl) ?q18a ?y18a hHeld ?r18a
    case o18a => simp only [List.getElem?_toArray, List.getElem?_cons_succ, List.getElem?_cons_zero]; rfl
    case q18a => exact fun _ _ _ h => h
    case y18a => exact Or.inr ⟨rfl, rfl⟩
    simp only [Act.put, List.setIfInBounds_toArray, List.set_cons_zero, List.set_cons_succ]
    refine wpAnyH_take (i := 19) (oi := ?p19a) (v := undef) ?o19a (by kernel_rfl) (by kernel_rfl) (by kernel_rfl) ?q19a ?y19a hHeld ?r19a
    case o19a => simp only [List.getElem?_toArray, List.getElem?_cons_succ, List.getElem?_cons_zero]; rfl
    case q19a => exact fun _ _ _ h => h
    case y19a => exact Or.inr ⟨rfl, rfl⟩
    simp only [Act.put, List.setIfInBounds_toArray, List.set_cons_zero, List.set_cons_succ]
    refine wpAnyH_take (i := 20) (oi := ?p20a) (v := undef) ?o20a (by kernel_rfl) (by kernel_rfl) (by kernel_rfl) ?q20a ?y20a hHeld ?r20a
    case o20a => simp only [List.getElem?_toArray, List.getElem?_cons_succ, List.getElem?_cons_zero]; rfl
    case q20a => exact fun _ _ _ h => h
    case y20a => exact Or.inr ⟨rfl, rfl⟩
    simp only [Act.put, List.setIfInBounds_toArray, List.set_cons_zero, List.set_cons_succ]
    refine wpAnyH_take (i := 21) (oi := ?p21a) (v := ?v21a) ?o21a (by kernel_rfl) (by kernel_rfl) (by kernel_rfl) ?q21a ?y21a hHeld ?r21a
    case o21a => simp only [List.getElem?_toArray, List.getElem?_cons_succ, List.getElem?_cons_zero]; rfl
    case q21a => exact fun _ _ _ h => h
    case y21a => (refine Or.inl ⟨rfl, ?_⟩; intro wq hq; obtain ⟨⟨a0, a1, a2, a3⟩, b0, b1, b2, b3⟩ := HS.out wq hq; go_simp; try with_reducible rfl)
    simp only [Act.put, List.setIfInBounds_toArray, List.set_cons_zero, List.set_cons_succ]
    refine wpAnyH_take (i := 22) (oi := ?p22a) (v := ?v22a) ?o22a (by kernel_rfl) (by kernel_rfl) (by kernel_rfl) ?q22a ?y22a hHeld ?r22a
    case o22a => simp only [List.getElem?_toArray, List.getElem?_cons_succ, List.getElem?_cons_zero]; rfl
    case q22a => exact fun _ _ _ h => h
    case y22a => (refine Or.inl ⟨rfl, ?_⟩; intro wq hq; obtain ⟨⟨a0, a1, a2, a3⟩, b0, b1, b2, b3⟩ := HS.out wq hq; go_simp; try with_reducible rfl)
    simp only [Act.put, List.setIfInBounds_toArray, List.set_cons_zero, List.set_cons_succ]
    refine wpAnyH_done (by kernel_rfl) ?_ _
    go_wp2
    go_ret
    exact ⟨by rw [HE.out]; rfl, HB2.out.drew⟩
  rw [e1] at HE
  cases e2 : (a + n == a')
  · rw [e2] at HE
    refine wp_region_held_drew (S := fun wq => Below (W2).heap.size (W2) wq) (by kernel_rfl) (Below.drew (Below.refl _ _)) (fun hHeld => ?_)
    refine wpAnyH_take (i := 0) (oi := ?p0b) (v := ?v0b) ?o0b (by kernel_rfl) (by kernel_rfl) (by kernel_rfl) ?q0b ?y0b hHeld ?r0b
    case o0b => simp only [List.getElem?_toArray, List.getElem?_cons_zero]; rfl
    case q0b => exact fun _ _ _ h => h
    case y0b => (refine Or.inl ⟨rfl, ?_⟩; intro wq hq; obtain ⟨⟨a0, a1, a2, a3⟩, b0, b1, b2, b3⟩ := HS.out wq hq; go_simp; try with_reducible rfl)
    simp only [Act.put, List.setIfInBounds_toArray, List.set_cons_zero, List.set_cons_succ]
    refine wpAnyH_take (i := 1) (oi := ?p1b) (v := ?v1b) ?o1b (by kernel_rfl) (by kernel_rfl) (by kernel_rfl) ?q1b ?y1b hHeld ?r1b
    case o1b => simp only [List.getElem?_toArray, List.getElem?_cons_succ, List.getElem?_cons_zero]; rfl
    case q1b => exact fun _ _ _ h => h
    case y1b => (refine Or.inl ⟨rfl, ?_⟩; intro wq hq; obtain ⟨⟨a0, a1, a2, a3⟩, b0, b1, b2, b3⟩ := HS.out wq hq; go_simp; try with_reducible rfl)
    simp only [Act.put, List.setIfInBounds_toArray, List.set_cons_zero, List.set_cons_succ]
    refine wpAnyH_take (i := 2) (oi := ?p2b) (v := ?v2b) ?o2b (by kernel_rfl) (by kernel_rfl) (by kernel_rfl) ?q2b ?y2b hHeld ?r2b
    case o2b => simp only [List.getElem?_toArray, List.getElem?_cons_succ, List.getElem?_cons_zero]; rfl
    case q2b => exact fun _ _ _ h => h
    case y2b => (refine Or.inl ⟨rfl, ?_⟩; intro wq hq; obtain ⟨⟨a0, a1, a2, a3⟩, b0, b1, b2, b3⟩ := HS.out wq hq; go_simp; try with_reducible rfl)
    simp only [Act.put, List.setIfInBounds_toArray, List.set_cons_zero, List.set_cons_succ]
    refine wpAnyH_take (i := 3) (oi := ?p3b) (v := ?v3b) ?o3b (by kernel_rfl) (by kernel_rfl) (by kernel_rfl) ?q3b ?y3b hHeld ?r3b
    case o3b => simp only [List.getElem?_toArray, List.getElem?_cons_succ, List.getElem?_cons_zero]; rfl
    case q3b => exact fun _ _ _ h => h
    case y3b => (refine Or.inl ⟨rfl, ?_⟩; intro wq hq; obtain ⟨⟨a0, a1, a2, a3⟩, b0, b1, b2, b3⟩ := HS.out wq hq; go_simp; try with_reducible rfl)
    simp only [Act.put, List.setIfInBounds_toArray, List.set_cons_zero, List.set_cons_succ]
    refine wpAnyH_take (i := 4) (oi := ?p4b) (v := ?v4b) ?o4b (by kernel_rfl) (by kernel_rfl) (by kernel_rfl) ?q4b ?y4b hHeld ?r4b
    case o4b => simp only [List.getElem?_toArray, List.getElem?_cons_succ, List.getElem?_cons_zero]; rfl
    case q4b => exact fun _ _ _ h => h
    case y4b => (refine Or.inl ⟨rfl, ?_⟩; intro wq hq; obtain ⟨⟨a0, a1, a2, a3⟩, b0, b1, b2, b3⟩ := HS.out wq hq; go_simp; try with_reducible rfl)
    simp only [Act.put, List.setIfInBounds_toArray, List.set_cons_zero, List.set_cons_succ]
    refine wpAnyH_take (i := 5) (oi := ?p5b) (v := ?v5b) ?o5b (by kernel_rfl) (by kernel_rfl) (by kernel_rfl) ?q5b ?y5b hHeld ?r5b
    case o5b => simp only [List.getElem?_toArray, List.getElem?_cons_succ, List.getElem?_cons_zero]; rfl
    case q5b => exact fun _ _ _ h => h
    case y5b => (refine Or.inl ⟨rfl, ?_⟩; intro wq hq; obtain ⟨⟨a0, a1, a2, a3⟩, b0, b1, b2, b3⟩ := HS.out wq hq; go_simp; try with_reducible rfl)
    simp only [Act.put, List.setIfInBounds_toArray, List.set_cons_zero, List.set_cons_succ]
    refine wpAnyH_take (i := 6) (oi := ?p6b) (v := ?v6b) ?o6b (by kernel_rfl) (by kernel_rfl) (by kernel_rfl) ?q6b ?y6b hHeld ?r6b
    case o6b => simp only [List.getElem?_toArray, List.getElem?_cons_succ, List.getElem?_cons_zero]; rfl
    case q6b => exact fun _ _ _ h => h
    case y6b => (refine Or.inl ⟨rfl, ?_⟩; intro wq hq; obtain ⟨⟨a0, a1, a2, a3⟩, b0, b1, b2, b3⟩ := HS.out wq hq; go_simp; try with_reducible rfl)
    simp only [Act.put, List.setIfInBounds_toArray, List.set_cons_zero, List.set_cons_succ]
    refine wpAnyH_take (i := 8) (oi := ?p8b) (v := ?v8b) ?o8b (by kernel_rfl) (by kernel_rfl) (by kernel_rfl) ?q8b ?y8b hHeld ?r8b
    case o8b => simp only [List.getElem?_toArray, List.getElem?_cons_succ, List.getElem?_cons_zero]; rfl
    case q8b => exact fun _ _ _ h => h
    case y8b => (refine Or.inl ⟨rfl, ?_⟩; intro wq hq; obtain ⟨⟨a0, a1, a2, a3⟩, b0, b1, b2, b3⟩ := HS.out wq hq; go_simp; try with_reducible rfl)
    simp only [Act.put, List.setIfInBounds_toArray, List.set_cons_zero, List.set_cons_succ]
    refine wpAnyH_take (i := 9) (oi := ?p9b) (v := ?v9b) ?o9b (by kernel_rfl) (by kernel_rfl) (by kernel_rfl) ?q9b ?y9b hHeld ?r9b
    case o9b => simp only [List.getElem?_toArray, List.getElem?_cons_succ, List.getElem?_cons_zero]; rfl
    case q9b => exact fun _ _ _ h => h
    case y9b => (refine Or.inl ⟨rfl, ?_⟩; intro wq hq; obtain ⟨⟨a0, a1, a2, a3⟩, b0, b1, b2, b3⟩ := HS.out wq hq; go_simp; try with_reducible rfl)
    simp only [Act.put, List.setIfInBounds_toArray, List.set_cons_zero, List.set_cons_succ]
    refine wpAnyH_ready (rs := [7]) (by kernel_rfl) (by simp) ?_
    refine AllReadyH.cons (o := ?p7b) ?o7b ?s7b AllReadyH.nil
    case o7b => simp only [List.getElem?_toArray, List.getElem?_cons_succ, List.getElem?_cons_zero]; rfl
    intro K hK
    go_simp
    refine (ending_any a n d f _ HA.out HN.out).mono ?_
    rintro x w1 ⟨rfl, hb⟩
    have B1 : Below W2.heap.size W2 w1 := Below.trans hHeld hb
    clear hb
    refine hK.out _ _ B1 (fun hHeld => ?_)
    clear hK K
    refine wpAnyH_take (i := 10) (oi := ?p10b) (v := ?v10b) ?o10b (by kernel_rfl) (by kernel_rfl) (by kernel_rfl) ?q10b ?y10b hHeld ?r10b
    case o10b => simp only [List.getElem?_toArray, List.getElem?_cons_succ, List.getElem?_cons_zero]; rfl
    case q10b => exact fun _ _ _ h => h
    case y10b => (refine Or.inl ⟨rfl, ?_⟩; intro wq hq; obtain ⟨⟨a0, a1, a2, a3⟩, b0, b1, b2, b3⟩ := HS.out wq hq; go_simp; try with_reducible rfl)
    simp only [Act.put, List.setIfInBounds_toArray, List.set_cons_zero, List.set_cons_succ]
    refine wpAnyH_take (i := 11) (oi := ?p11b) (v := ?v11b) ?o11b (by kernel_rfl) (by kernel_rfl) (by kernel_rfl) ?q11b ?y11b hHeld ?r11b
    case o11b => simp only [List.getElem?_toArray, List.getElem?_cons_succ, List.getElem?_cons_zero]; rfl
    case q11b => exact fun _ _ _ h => h
    case y11b => (refine Or.inl ⟨rfl, ?_⟩; intro wq hq; obtain ⟨⟨a0, a1, a2, a3⟩, b0, b1, b2, b3⟩ := HS.out wq hq; go_simp; try with_reducible rfl)
    simp only [Act.put, List.setIfInBounds_toArray, List.set_cons_zero, List.set_cons_succ]
    refine wpAnyH_take (i := 12) (oi := ?p12b) (v := ?v12b) ?o12b (by kernel_rfl) (by kernel_rfl) (by kernel_rfl) ?q12b ?y12b hHeld ?r12b
    case o12b => simp only [List.getElem?_toArray, List.getElem?_cons_succ, List.getElem?_cons_zero]; rfl
    case q12b => exact fun _ _ _ h => h
    case y12b => (refine Or.inl ⟨rfl, ?_⟩; intro wq hq; obtain ⟨⟨a0, a1, a2, a3⟩, b0, b1, b2, b3⟩ := HS.out wq hq; go_simp; try with_reducible rfl)
    simp only [Act.put, List.setIfInBounds_toArray, List.set_cons_zero, List.set_cons_succ]
    refine wpAnyH_take (i := 13) (oi := ?p13b) (v := undef) ?o13b (by kernel_rfl) (by kernel_rfl) (by kernel_rfl) ?q13b ?y13b hHeld ?r13b
    case o13b => simp only [List.getElem?_toArray, List.getElem?_cons_succ, List.getElem?_cons_zero]; rfl
    case q13b => exact fun _ _ _ h => h
    case y13b => exact Or.inr ⟨rfl, rfl⟩
    simp only [Act.put, List.setIfInBounds_toArray, List.set_cons_zero, List.set_cons_succ]
    refine wpAnyH_take (i := 14) (oi := ?p14b) (v := undef) ?o14b (by kernel_rfl) (by kernel_rfl) (by kernel_rfl) ?q14b ?y14b hHeld ?r14b
    case o14b => simp only [List.getElem?_toArray, List.getElem?_cons_succ, List.getElem?_cons_zero]; rfl
    case q14b => exact fun _ _ _ h => h
    case y14b => exact Or.inr ⟨rfl, rfl⟩
    simp only [Act.put, List.setIfInBounds_toArray, List.set_cons_zero, List.set_cons_succ]
    refine wpAnyH_take (i := 15) (oi := ?p15b) (v := undef) ?o15b (by kernel_rfl) (by kernel_rfl) (by kernel_rfl) ?q15b ?y15b hHeld ?r15b
    case o15b => simp only [List.getElem?_toArray, List.getElem?_cons_succ, List.getElem?_cons_zero]; rfl
    case q15b => exact fun _ _ _ h => h
    case y15b => exact Or.inr ⟨rfl, rfl⟩
    simp only [Act.put, List.setIfInBounds_toArray, List.set_cons_zero, List.set_cons_succ]
    refine wpAnyH_take (i := 16) (oi := ?p16b) (v := undef) ?o16b (by kernel_rfl) (by kernel_rfl) (by kernel_rfl) ?q16b ?y16b hHeld ?r16b
    case o16b => simp only [List.getElem?_toArray, List.getElem?_cons_succ, List.getElem?_cons_zero]; rfl
    case q16b => exact fun _ _ _ h => h
    case y16b => exact Or.inr ⟨rfl, rfl⟩
    simp only [Act.put, List.setIfInBounds_toArray, List.set_cons_zero, List.set_cons_succ]
    refine wpAnyH_take (i := 17) (oi := ?p17b) (v := undef) ?o17b (by kernel_rfl) (by kernel_rfl) (by kernel_rfl) ?q17b ?y17b hHeld ?r17b
    case o17b => simp only [List.getElem?_toArray, List.getElem?_cons_succ, List.getElem?_cons_zero]; rfl
    case q17b => exact fun _ _ _ h => h
    case y17b => exact Or.inr ⟨rfl, rfl⟩
    simp only [Act.put, List.setIfInBounds_toArray, List.set_cons_zero, List.set_cons_succ]
    refine wpAnyH_take (i := 18) (oi := ?p18b) (v := undef) ?o18b (by kernel_rfl) (by kernel_rfl) (by kernel_rfl) ?q18b ?y18b hHeld ?r18b
    case o18b => simp only [List.getElem?_toArray, List.getElem?_cons_succ, List.getElem?_cons_zero]; rfl
    case q18b => exact fun _ _ _ h => h
    case y18b => exact Or.inr ⟨rfl, rfl⟩
    simp only [Act.put, List.setIfInBounds_toArray, List.set_cons_zero, List.set_cons_succ]
    refine wpAnyH_take (i := 19) (oi := ?p19b) (v := undef) ?o19b (by kernel_rfl) (by kernel_rfl) (by kernel_rfl) ?q19b ?y19b hHeld ?r19b
    case o19b => simp only [List.getElem?_toArray, List.getElem?_cons_succ, List.getElem?_cons_zero]; rfl
    case q19b => exact fun _ _ _ h => h
    case y19b => exact Or.inr ⟨rfl, rfl⟩
    simp only [Act.put, List.setIfInBounds_toArray, List.set_cons_zero, List.set_cons_succ]
    refine wpAnyH_take (i := 20) (oi := ?p20b) (v := undef) ?o20b (by kernel_rfl) (by kernel_rfl) (by kernel_rfl) ?q20b ?y20b hHeld ?r20b
    case o20b => simp only [List.getElem?_toArray, List.getElem?_cons_succ, List.getElem?_cons_zero]; rfl
    case q20b => exact fun _ _ _ h => h
    case y20b => exact Or.inr ⟨rfl, rfl⟩
    simp only [Act.put, List.setIfInBounds_toArray, List.set_cons_zero, List.set_cons_succ]
    refine wpAnyH_take (i := 21) (oi := ?p21b) (v := ?v21b) ?o21b (by kernel_rfl) (by kernel_rfl) (by kernel_rfl) ?q21b ?y21b hHeld ?r21b
    case o21b => simp only [List.getElem?_toArray, List.getElem?_cons_succ, List.getElem?_cons_zero]; rfl
    case q21b => exact fun _ _ _ h => h
    case y21b => (refine Or.inl ⟨rfl, ?_⟩; intro wq hq; obtain ⟨⟨a0, a1, a2, a3⟩, b0, b1, b2, b3⟩ := HS.out wq hq; go_simp; try with_reducible rfl)
    simp only [Act.put, List.setIfInBounds_toArray, List.set_cons_zero, List.set_cons_succ]
    refine wpAnyH_take (i := 22) (oi := ?p22b) (v := ?v22b) ?o22b (by kernel_rfl) (by kernel_rfl) (by kernel_rfl) ?q22b ?y22b hHeld ?r22b
    case o22b => simp only [List.getElem?_toArray, List.getElem?_cons_succ, List.getElem?_cons_zero]; rfl
    case q22b => exact fun _ _ _ h => h
    case y22b => (refine Or.inl ⟨rfl, ?_⟩; intro wq hq; obtain ⟨⟨a0, a1, a2, a3⟩, b0, b1, b2, b3⟩ := HS.out wq hq; go_simp; try with_reducible rfl)
    simp only [Act.put, List.setIfInBounds_toArray, List.set_cons_zero, List.set_cons_succ]
    refine wpAnyH_done (by kernel_rfl) ?_ _
    go_wp2
    go_ret
    exact ⟨by rw [HE.out]; rfl, bel_up HB2.out B1 (Nat.le_refl _)⟩
  rw [e2] at HE
  cases e3 : (f + n == f')
  · rw [e3] at HE
    refine wp_region_held_drew (S := fun wq => Below (W2).heap.size (W2) wq) (by kernel_rfl) (Below.drew (Below.refl _ _)) (fun hHeld => ?_)
    refine wpAnyH_take (i := 0) (oi := ?p0c) (v := ?v0c) ?o0c (by kernel_rfl) (by kernel_rfl) (by kernel_rfl) ?q0c ?y0c hHeld ?r0c
    case o0c => simp only [List.getElem?_toArray, List.getElem?_cons_zero]; rfl
    case q0c => exact fun _ _ _ h => h
    case y0c => (refine Or.inl ⟨rfl, ?_⟩; intro wq hq; obtain ⟨⟨a0, a1, a2, a3⟩, b0, b1, b2, b3⟩ := HS.out wq hq; go_simp; try with_reducible rfl)
    simp only [Act.put, List.setIfInBounds_toArray, List.set_cons_zero, List.set_cons_succ]
    refine wpAnyH_take (i := 1) (oi := ?p1c) (v := ?v1c) ?o1c (by kernel_rfl) (by kernel_rfl) (by kernel_rfl) ?q1c ?y1c hHeld ?r1c
    case o1c => simp only [List.getElem?_toArray, List.getElem?_cons_succ, List.getElem?_cons_zero]; rfl
    case q1c => exact fun _ _ _ h => h
    case y1c => (refine Or.inl ⟨rfl, ?_⟩; intro wq hq; obtain ⟨⟨a0, a1, a2, a3⟩, b0, b1, b2, b3⟩ := HS.out wq hq; go_simp; try with_reducible rfl)
    simp only [Act.put, List.setIfInBounds_toArray, List.set_cons_zero, List.set_cons_succ]
    refine wpAnyH_take (i := 2) (oi := ?p2c) (v := ?v2c) ?o2c (by kernel_rfl) (by kernel_rfl) (by kernel_rfl) ?q2c ?y2c hHeld ?r2c
    case o2c => simp only [List.getElem?_toArray, List.getElem?_cons_succ, List.getElem?_cons_zero]; rfl
    case q2c => exact fun _ _ _ h => h
    case y2c => (refine Or.inl ⟨rfl, ?_⟩; intro wq hq; obtain ⟨⟨a0, a1, a2, a3⟩, b0, b1, b2, b3⟩ := HS.out wq hq; go_simp; try with_reducible rfl)
    simp only [Act.put, List.setIfInBounds_toArray, List.set_cons_zero, List.set_cons_succ]
    refine wpAnyH_take (i := 3) (oi := ?p3c) (v := ?v3c) ?o3c (by kernel_rfl) (by kernel_rfl) (by kernel_rfl) ?q3c ?y3c hHeld ?r3c
    case o3c => simp only [List.getElem?_toArray, List.getElem?_cons_succ, List.getElem?_cons_zero]; rfl
    case q3c => exact fun _ _ _ h => h
    case y3c => (refine Or.inl ⟨rfl, ?_⟩; intro wq hq; obtain ⟨⟨a0, a1, a2, a3⟩, b0, b1, b2, b3⟩ := HS.out wq hq; go_simp; try with_reducible rfl)
    simp only [Act.put, List.setIfInBounds_toArray, List.set_cons_zero, List.set_cons_succ]
    refine wpAnyH_take (i := 4) (oi := ?p4c) (v := ?v4c) ?o4c (by kernel_rfl) (by kernel_rfl) (by kernel_rfl) ?q4c ?y4c hHeld ?r4c
    case o4c => simp only [List.getElem?_toArray, List.getElem?_cons_succ, List.getElem?_cons_zero]; rfl
    case q4c => exact fun _ _ _ h => h
    case y4c => (refine Or.inl ⟨rfl, ?_⟩; intro wq hq; obtain ⟨⟨a0, a1, a2, a3⟩, b0, b1, b2, b3⟩ := HS.out wq hq; go_simp; try with_reducible rfl)
    simp only [Act.put, List.setIfInBounds_toArray, List.set_cons_zero, List.set_cons_succ]
    refine wpAnyH_take (i := 5) (oi := ?p5c) (v := ?v5c) ?o5c (by kernel_rfl) (by kernel_rfl) (by kernel_rfl) ?q5c ?y5c hHeld ?r5c
    case o5c => simp only [List.getElem?_toArray, List.getElem?_cons_succ, List.getElem?_cons_zero]; rfl
    case q5c => exact fun _ _ _ h => h
    case y5c => (refine Or.inl ⟨rfl, ?_⟩; intro wq hq; obtain ⟨⟨a0, a1, a2, a3⟩, b0, b1, b2, b3⟩ := HS.out wq hq; go_simp; try with_reducible rfl)
    simp only [Act.put, List.setIfInBounds_toArray, List.set_cons_zero, List.set_cons_succ]
    refine wpAnyH_take (i := 6) (oi := ?p6c) (v := ?v6c) ?o6c (by kernel_rfl) (by kernel_rfl) (by kernel_rfl) ?q6c ?y6c hHeld ?r6c
    case o6c => simp only [List.getElem?_toArray, List.getElem?_cons_succ, List.getElem?_cons_zero]; rfl
    case q6c => exact fun _ _ _ h => h
    case y6c => (refine Or.inl ⟨rfl, ?_⟩; intro wq hq; obtain ⟨⟨a0, a1, a2, a3⟩, b0, b1, b2, b3⟩ := HS.out wq hq; go_simp; try with_reducible rfl)
    simp only [Act.put, List.setIfInBounds_toArray, List.set_cons_zero, List.set_cons_succ]
    refine wpAnyH_take (i := 8) (oi := ?p8c) (v := ?v8c) ?o8c (by kernel_rfl) (by kernel_rfl) (by kernel_rfl) ?q8c ?y8c hHeld ?r8c
    case o8c => simp only [List.getElem?_toArray, List.getElem?_cons_succ, List.getElem?_cons_zero]; rfl
    case q8c => exact fun _ _ _ h => h
    case y8c => (refine Or.inl ⟨rfl, ?_⟩; intro wq hq; obtain ⟨⟨a0, a1, a2, a3⟩, b0, b1, b2, b3⟩ := HS.out wq hq; go_simp; try with_reducible rfl)
    simp only [Act.put, List.setIfInBounds_toArray, List.set_cons_zero, List.set_cons_succ]
    refine wpAnyH_take (i := 9) (oi := ?p9c) (v := ?v9c) ?o9c (by kernel_rfl) (by kernel_rfl) (by kernel_rfl) ?q9c ?y9c hHeld ?r9c
    case o9c => simp only [List.getElem?_toArray, List.getElem?_cons_succ, List.getElem?_cons_zero]; rfl
    case q9c => exact fun _ _ _ h => h
    case y9c => (refine Or.inl ⟨rfl, ?_⟩; intro wq hq; obtain ⟨⟨a0, a1, a2, a3⟩, b0, b1, b2, b3⟩ := HS.out wq hq; go_simp; try with_reducible rfl)
    simp only [Act.put, List.setIfInBounds_toArray, List.set_cons_zero, List.set_cons_succ]
    refine wpAnyH_ready (rs := [7]) (by kernel_rfl) (by simp) ?_
    refine AllReadyH.cons (o := ?p7c) ?o7c ?s7c AllReadyH.nil
    case o7c => simp only [List.getElem?_toArray, List.getElem?_cons_succ, List.getElem?_cons_zero]; rfl
    intro K hK
    go_simp
    refine (ending_any a n d f _ HA.out HN.out).mono ?_
    rintro x w1 ⟨rfl, hb⟩
    have B1 : Below W2.heap.size W2 w1 := Below.trans hHeld hb
    clear hb
    refine hK.out _ _ B1 (fun hHeld => ?_)
    clear hK K
    refine wpAnyH_take (i := 10) (oi := ?p10c) (v := ?v10c) ?o10c (by kernel_rfl) (by kernel_rfl) (by kernel_rfl) ?q10c ?y10c hHeld ?r10c
    case o10c => simp only [List.getElem?_toArray, List.getElem?_cons_succ, List.getElem?_cons_zero]; rfl
    case q10c => exact fun _ _ _ h => h
    case y10c => (refine Or.inl ⟨rfl, ?_⟩; intro wq hq; obtain ⟨⟨a0, a1, a2, a3⟩, b0, b1, b2, b3⟩ := HS.out wq hq; go_simp; try with_reducible rfl)
    simp only [Act.put, List.setIfInBounds_toArray, List.set_cons_zero, List.set_cons_succ]
    refine wpAnyH_take (i := 11) (oi := ?p11c) (v := ?v11c) ?o11c (by kernel_rfl) (by kernel_rfl) (by kernel_rfl) ?q11c ?y11c hHeld ?r11c
    case o11c => simp only [List.getElem?_toArray, List.getElem?_cons_succ, List.getElem?_cons_zero]; rfl
    case q11c => exact fun _ _ _ h => h
    case y11c => (refine Or.inl ⟨rfl, ?_⟩; intro wq hq; obtain ⟨⟨a0, a1, a2, a3⟩, b0, b1, b2, b3⟩ := HS.out wq hq; go_simp; try with_reducible rfl)
    simp only [Act.put, List.setIfInBounds_toArray, List.set_cons_zero, List.set_cons_succ]
    refine wpAnyH_take (i := 12) (oi := ?p12c) (v := ?v12c) ?o12c (by kernel_rfl) (by kernel_rfl) (by kernel_rfl) ?q12c ?y12c hHeld ?r12c
    case o12c => simp only [List.getElem?_toArray, List.getElem?_cons_succ, List.getElem?_cons_zero]; rfl
    case q12c => exact fun _ _ _ h => h
    case y12c => (refine Or.inl ⟨rfl, ?_⟩; intro wq hq; obtain ⟨⟨a0, a1, a2, a3⟩, b0, b1, b2, b3⟩ := HS.out wq hq; go_simp; try with_reducible rfl)
    simp only [Act.put, List.setIfInBounds_toArray, List.set_cons_zero, List.set_cons_succ]
    refine wpAnyH_take (i := 13) (oi := ?p13c) (v := ?v13c) ?o13c (by kernel_rfl) (by kernel_rfl) (by kernel_rfl) ?q13c ?y13c hHeld ?r13c
    case o13c => simp only [List.getElem?_toArray, List.getElem?_cons_succ, List.getElem?_cons_zero]; rfl
    case q13c => exact fun _ _ _ h => h
    case y13c => (refine Or.inl ⟨rfl, ?_⟩; intro wq hq; obtain ⟨⟨a0, a1, a2, a3⟩, b0, b1, b2, b3⟩ := HS.out wq hq; go_simp; try with_reducible rfl)
    simp only [Act.put, List.setIfInBounds_toArray, List.set_cons_zero, List.set_cons_succ]
    refine wpAnyH_take (i := 14) (oi := ?p14c) (v := ?v14c) ?o14c (by kernel_rfl) (by kernel_rfl) (by kernel_rfl) ?q14c ?y14c hHeld ?r14c
    case o14c => simp only [List.getElem?_toArray, List.getElem?_cons_succ, List.getElem?_cons_zero]; rfl
    case q14c => exact fun _ _ _ h => h
    case y14c => (refine Or.inl ⟨rfl, ?_⟩; intro wq hq; obtain ⟨⟨a0, a1, a2, a3⟩, b0, b1, b2, b3⟩ := HS.out wq hq; go_simp; try with_reducible rfl)
    simp only [Act.put, List.setIfInBounds_toArray, List.set_cons_zero, List.set_cons_succ]
    refine wpAnyH_take (i := 15) (oi := ?p15c) (v := ?v15c) ?o15c (by kernel_rfl) (by kernel_rfl) (by kernel_rfl) ?q15c ?y15c hHeld ?r15c
    case o15c => simp only [List.getElem?_toArray, List.getElem?_cons_succ, List.getElem?_cons_zero]; rfl
    case q15c => exact fun _ _ _ h => h
    case y15c => (refine Or.inl ⟨rfl, ?_⟩; intro wq hq; obtain ⟨⟨a0, a1, a2, a3⟩, b0, b1, b2, b3⟩ := HS.out wq hq; go_simp; try with_reducible rfl)
    simp only [Act.put, List.setIfInBounds_toArray, List.set_cons_zero, List.set_cons_succ]
    refine wpAnyH_take (i := 16) (oi := ?p16c) (v := ?v16c) ?o16c (by kernel_rfl) (by kernel_rfl) (by kernel_rfl) ?q16c ?y16c hHeld ?r16c
    case o16c => simp only [List.getElem?_toArray, List.getElem?_cons_succ, List.getElem?_cons_zero]; rfl
    case q16c => exact fun _ _ _ h => h
    case y16c => (refine Or.inl ⟨rfl, ?_⟩; intro wq hq; obtain ⟨⟨a0, a1, a2, a3⟩, b0, b1, b2, b3⟩ := HS.out wq hq; go_simp; try with_reducible rfl)
    simp only [Act.put, List.setIfInBounds_toArray, List.set_cons_zero, List.set_cons_succ]
    refine wpAnyH_take (i := 17) (oi := ?p17c) (v := ?v17c) ?o17c (by kernel_rfl) (by kernel_rfl) (by kernel_rfl) ?q17c ?y17c hHeld ?r17c
    case o17c => simp only [List.getElem?_toArray, List.getElem?_cons_succ, List.getElem?_cons_zero]; rfl
    case q17c => exact fun _ _ _ h => h
    case y17c => (refine Or.inl ⟨rfl, ?_⟩; intro wq hq; obtain ⟨⟨a0, a1, a2, a3⟩, b0, b1, b2, b3⟩ := HS.out wq hq; go_simp; try with_reducible rfl)
    simp only [Act.put, List.setIfInBounds_toArray, List.set_cons_zero, List.set_cons_succ]
    refine wpAnyH_take (i := 18) (oi := ?p18c) (v := ?v18c) ?o18c (by kernel_rfl) (by kernel_rfl) (by kernel_rfl) ?q18c ?y18c hHeld ?r18c
    case o18c => simp only [List.getElem?_toArray, List.getElem?_cons_succ, List.getElem?_cons_zero]; rfl
    case q18c => exact fun _ _ _ h => h
    case y18c => (refine Or.inl ⟨rfl, ?_⟩; intro wq hq; obtain ⟨⟨a0, a1, a2, a3⟩, b0, b1, b2, b3⟩ := HS.out wq hq; go_simp; try with_reducible rfl)
    simp only [Act.put, List.setIfInBounds_toArray, List.set_cons_zero, List.set_cons_succ]
    refine wpAnyH_take (i := 19) (oi := ?p19c) (v := ?v19c) ?o19c (by kernel_rfl) (by kernel_rfl) (by kernel_rfl) ?q19c ?y19c hHeld ?r19c
    case o19c => simp only [List.getElem?_toArray, List.getElem?_cons_succ, List.getElem?_cons_zero]; rfl
    case q19c => exact fun _ _ _ h => h
    case y19c => (refine Or.inl ⟨rfl, ?_⟩; intro wq hq; obtain ⟨⟨a0, a1, a2, a3⟩, b0, b1, b2, b3⟩ := HS.out wq hq; go_simp; try with_reducible rfl)
    simp only [Act.put, List.setIfInBounds_toArray, List.set_cons_zero, List.set_cons_succ]
    refine wpAnyH_take (i := 20) (oi := ?p20c) (v := ?v20c) ?o20c (by kernel_rfl) (by kernel_rfl) (by kernel_rfl) ?q20c ?y20c hHeld ?r20c
    case o20c => simp only [List.getElem?_toArray, List.getElem?_cons_succ, List.getElem?_cons_zero]; rfl
    case q20c => exact fun _ _ _ h => h
    case y20c => (refine Or.inl ⟨rfl, ?_⟩; intro wq hq; obtain ⟨⟨a0, a1, a2, a3⟩, b0, b1, b2, b3⟩ := HS.out wq hq; go_simp; try with_reducible rfl)
    simp only [Act.put, List.setIfInBounds_toArray, List.set_cons_zero, List.set_cons_succ]
    refine wpAnyH_take (i := 21) (oi := ?p21c) (v := ?v21c) ?o21c (by kernel_rfl) (by kernel_rfl) (by kernel_rfl) ?q21c ?y21c hHeld ?r21c
    case o21c => simp only [List.getElem?_toArray, List.getElem?_cons_succ, List.getElem?_cons_zero]; rfl
    case q21c => exact fun _ _ _ h => h
    case y21c => (refine Or.inl ⟨rfl, ?_⟩; intro wq hq; obtain ⟨⟨a0, a1, a2, a3⟩, b0, b1, b2, b3⟩ := HS.out wq hq; go_simp; try with_reducible rfl)
    simp only [Act.put, List.setIfInBounds_toArray, List.set_cons_zero, List.set_cons_succ]
    refine wpAnyH_take (i := 22) (oi := ?p22c) (v := ?v22c) ?o22c (by kernel_rfl) (by kernel_rfl) (by kernel_rfl) ?q22c ?y22c hHeld ?r22c
    case o22c => simp only [List.getElem?_toArray, List.getElem?_cons_succ, List.getElem?_cons_zero]; rfl
    case q22c => exact fun _ _ _ h => h
    case y22c => (refine Or.inl ⟨rfl, ?_⟩; intro wq hq; obtain ⟨⟨a0, a1, a2, a3⟩, b0, b1, b2, b3⟩ := HS.out wq hq; go_simp; try with_reducible rfl)
    simp only [Act.put, List.setIfInBounds_toArray, List.set_cons_zero, List.set_cons_succ]
    refine wpAnyH_done (by kernel_rfl) ?_ _
    go_wp2
    go_ret
    exact ⟨by rw [HE.out]; rfl, bel_up HB2.out B1 (Nat.le_refl _)⟩
  · rw [e3] at HE
    refine wp_region_held_drew (S := fun wq => Below (W2).heap.size (W2) wq) (by kernel_rfl) (Below.drew (Below.refl _ _)) (fun hHeld => ?_)
    refine wpAnyH_take (i := 0) (oi := ?p0d) (v := ?v0d) ?o0d (by kernel_rfl) (by kernel_rfl) (by kernel_rfl) ?q0d ?y0d hHeld ?r0d
    case o0d => simp only [List.getElem?_toArray, List.getElem?_cons_zero]; rfl
    case q0d => exact fun _ _ _ h => h
    case y0d => (refine Or.inl ⟨rfl, ?_⟩; intro wq hq; obtain ⟨⟨a0, a1, a2, a3⟩, b0, b1, b2, b3⟩ := HS.out wq hq; go_simp; try with_reducible rfl)
    simp only [Act.put, List.setIfInBounds_toArray, List.set_cons_zero, List.set_cons_succ]
    refine wpAnyH_take (i := 1) (oi := ?p1d) (v := ?v1d) ?o1d (by kernel_rfl) (by kernel_rfl) (by kernel_rfl) ?q1d ?y1d hHeld ?r1d
    case o1d => simp only [List.getElem?_toArray, List.getElem?_cons_succ, List.getElem?_cons_zero]; rfl
    case q1d => exact fun _ _ _ h => h
    case y1d => (refine Or.inl ⟨rfl, ?_⟩; intro wq hq; obtain ⟨⟨a0, a1, a2, a3⟩, b0, b1, b2, b3⟩ := HS.out wq hq; go_simp; try with_reducible rfl)
    simp only [Act.put, List.setIfInBounds_toArray, List.set_cons_zero, List.set_cons_succ]
    refine wpAnyH_take (i := 2) (oi := ?p2d) (v := ?v2d) ?o2d (by kernel_rfl) (by kernel_rfl) (by kernel_rfl) ?q2d ?y2d hHeld ?r2d
    case o2d => simp only [List.getElem?_toArray, List.getElem?_cons_succ, List.getElem?_cons_zero]; rfl
    case q2d => exact fun _ _ _ h => h
    case y2d => (refine Or.inl ⟨rfl, ?_⟩; intro wq hq; obtain ⟨⟨a0, a1, a2, a3⟩, b0, b1, b2, b3⟩ := HS.out wq hq; go_simp; try with_reducible rfl)
    simp only [Act.put, List.setIfInBounds_toArray, List.set_cons_zero, List.set_cons_succ]
    refine wpAnyH_take (i := 3) (oi := ?p3d) (v := ?v3d) ?o3d (by kernel_rfl) (by kernel_rfl) (by kernel_rfl) ?q3d ?y3d hHeld ?r3d
    case o3d => simp only [List.getElem?_toArray, List.getElem?_cons_succ, List.getElem?_cons_zero]; rfl
    case q3d => exact fun _ _ _ h => h
    case y3d => (refine Or.inl ⟨rfl, ?_⟩; intro wq hq; obtain ⟨⟨a0, a1, a2, a3⟩, b0, b1, b2, b3⟩ := HS.out wq hq; go_simp; try with_reducible rfl)
    simp only [Act.put, List.setIfInBounds_toArray, List.set_cons_zero, List.set_cons_succ]
    refine wpAnyH_take (i := 4) (oi := ?p4d) (v := ?v4d) ?o4d (by kernel_rfl) (by kernel_rfl) (by kernel_rfl) ?q4d ?y4d hHeld ?r4d
    case o4d => simp only [List.getElem?_toArray, List.getElem?_cons_succ, List.getElem?_cons_zero]; rfl
    case q4d => exact fun _ _ _ h => h
    case y4d => (refine Or.inl ⟨rfl, ?_⟩; intro wq hq; obtain ⟨⟨a0, a1, a2, a3⟩, b0, b1, b2, b3⟩ := HS.out wq hq; go_simp; try with_reducible rfl)
    simp only [Act.put, List.setIfInBounds_toArray, List.set_cons_zero, List.set_cons_succ]
    refine wpAnyH_take (i := 5) (oi := ?p5d) (v := ?v5d) ?o5d (by kernel_rfl) (by kernel_rfl) (by kernel_rfl) ?q5d ?y5d hHeld ?r5d
    case o5d => simp only [List.getElem?_toArray, List.getElem?_cons_succ, List.getElem?_cons_zero]; rfl
    case q5d => exact fun _ _ _ h => h
    case y5d => (refine Or.inl ⟨rfl, ?_⟩; intro wq hq; obtain ⟨⟨a0, a1, a2, a3⟩, b0, b1, b2, b3⟩ := HS.out wq hq; go_simp; try with_reducible rfl)
    simp only [Act.put, List.setIfInBounds_toArray, List.set_cons_zero, List.set_cons_succ]
    refine wpAnyH_take (i := 6) (oi := ?p6d) (v := ?v6d) ?o6d (by kernel_rfl) (by kernel_rfl) (by kernel_rfl) ?q6d ?y6d hHeld ?r6d
    case o6d => simp only [List.getElem?_toArray, List.getElem?_cons_succ, List.getElem?_cons_zero]; rfl
    case q6d => exact fun _ _ _ h => h
    case y6d => (refine Or.inl ⟨rfl, ?_⟩; intro wq hq; obtain ⟨⟨a0, a1, a2, a3⟩, b0, b1, b2, b3⟩ := HS.out wq hq; go_simp; try with_reducible rfl)
    simp only [Act.put, List.setIfInBounds_toArray, List.set_cons_zero, List.set_cons_succ]
    refine wpAnyH_take (i := 8) (oi := ?p8d) (v := ?v8d) ?o8d (by kernel_rfl) (by kernel_rfl) (by kernel_rfl) ?q8d ?y8d hHeld ?r8d
    case o8d => simp only [List.getElem?_toArray, List.getElem?_cons_succ, List.getElem?_cons_zero]; rfl
    case q8d => exact fun _ _ _ h => h
    case y8d => (refine Or.inl ⟨rfl, ?_⟩; intro wq hq; obtain ⟨⟨a0, a1, a2, a3⟩, b0, b1, b2, b3⟩ := HS.out wq hq; go_simp; try with_reducible rfl)
    simp only [Act.put, List.setIfInBounds_toArray, List.set_cons_zero, List.set_cons_succ]
    refine wpAnyH_take (i := 9) (oi := ?p9d) (v := ?v9d) ?o9d (by kernel_rfl) (by kernel_rfl) (by kernel_rfl) ?q9d ?y9d hHeld ?r9d
    case o9d => simp only [List.getElem?_toArray, List.getElem?_cons_succ, List.getElem?_cons_zero]; rfl
    case q9d => exact fun _ _ _ h => h
    case y9d => (refine Or.inl ⟨rfl, ?_⟩; intro wq hq; obtain ⟨⟨a0, a1, a2, a3⟩, b0, b1, b2, b3⟩ := HS.out wq hq; go_simp; try with_reducible rfl)
    simp only [Act.put, List.setIfInBounds_toArray, List.set_cons_zero, List.set_cons_succ]
    refine wpAnyH_ready (rs := [7]) (by kernel_rfl) (by simp) ?_
    refine AllReadyH.cons (o := ?p7d) ?o7d ?s7d AllReadyH.nil
    case o7d => simp only [List.getElem?_toArray, List.getElem?_cons_succ, List.getElem?_cons_zero]; rfl
    intro K hK
    go_simp
    refine (ending_any a n d f _ HA.out HN.out).mono ?_
    rintro x w1 ⟨rfl, hb⟩
    have B1 : Below W2.heap.size W2 w1 := Below.trans hHeld hb
    clear hb
    refine hK.out _ _ B1 (fun hHeld => ?_)
    clear hK K
    refine wpAnyH_take (i := 10) (oi := ?p10d) (v := ?v10d) ?o10d (by kernel_rfl) (by kernel_rfl) (by kernel_rfl) ?q10d ?y10d hHeld ?r10d
    case o10d => simp only [List.getElem?_toArray, List.getElem?_cons_succ, List.getElem?_cons_zero]; rfl
    case q10d => exact fun _ _ _ h => h
    case y10d => (refine Or.inl ⟨rfl, ?_⟩; intro wq hq; obtain ⟨⟨a0, a1, a2, a3⟩, b0, b1, b2, b3⟩ := HS.out wq hq; go_simp; try with_reducible rfl)
    simp only [Act.put, List.setIfInBounds_toArray, List.set_cons_zero, List.set_cons_succ]
    refine wpAnyH_take (i := 11) (oi := ?p11d) (v := ?v11d) ?o11d (by kernel_rfl) (by kernel_rfl) (by kernel_rfl) ?q11d ?y11d hHeld ?r11d
    case o11d => simp only [List.getElem?_toArray, List.getElem?_cons_succ, List.getElem?_cons_zero]; rfl
    case q11d => exact fun _ _ _ h => h
    case y11d => (refine Or.inl ⟨rfl, ?_⟩; intro wq hq; obtain ⟨⟨a0, a1, a2, a3⟩, b0, b1, b2, b3⟩ := HS.out wq hq; go_simp; try with_reducible rfl)
    simp only [Act.put, List.setIfInBounds_toArray, List.set_cons_zero, List.set_cons_succ]
    refine wpAnyH_take (i := 12) (oi := ?p12d) (v := ?v12d) ?o12d (by kernel_rfl) (by kernel_rfl) (by kernel_rfl) ?q12d ?y12d hHeld ?r12d
    case o12d => simp only [List.getElem?_toArray, List.getElem?_cons_succ, List.getElem?_cons_zero]; rfl
    case q12d => exact fun _ _ _ h => h
    case y12d => (refine Or.inl ⟨rfl, ?_⟩; intro wq hq; obtain ⟨⟨a0, a1, a2, a3⟩, b0, b1, b2, b3⟩ := HS.out wq hq; go_simp; try with_reducible rfl)
    simp only [Act.put, List.setIfInBounds_toArray, List.set_cons_zero, List.set_cons_succ]
    refine wpAnyH_take (i := 13) (oi := ?p13d) (v := ?v13d) ?o13d (by kernel_rfl) (by kernel_rfl) (by kernel_rfl) ?q13d ?y13d hHeld ?r13d
    case o13d => simp only [List.getElem?_toArray, List.getElem?_cons_succ, List.getElem?_cons_zero]; rfl
    case q13d => exact fun _ _ _ h => h
    case y13d => (refine Or.inl ⟨rfl, ?_⟩; intro wq hq; obtain ⟨⟨a0, a1, a2, a3⟩, b0, b1, b2, b3⟩ := HS.out wq hq; go_simp; try with_reducible rfl)
    simp only [Act.put, List.setIfInBounds_toArray, List.set_cons_zero, List.set_cons_succ]
    refine wpAnyH_take (i := 14) (oi := ?p14d) (v := ?v14d) ?o14d (by kernel_rfl) (by kernel_rfl) (by kernel_rfl) ?q14d ?y14d hHeld ?r14d
    case o14d => simp only [List.getElem?_toArray, List.getElem?_cons_succ, List.getElem?_cons_zero]; rfl
    case q14d => exact fun _ _ _ h => h
    case y14d => (refine Or.inl ⟨rfl, ?_⟩; intro wq hq; obtain ⟨⟨a0, a1, a2, a3⟩, b0, b1, b2, b3⟩ := HS.out wq hq; go_simp; try with_reducible rfl)
    simp only [Act.put, List.setIfInBounds_toArray, List.set_cons_zero, List.set_cons_succ]
    refine wpAnyH_take (i := 15) (oi := ?p15d) (v := ?v15d) ?o15d (by kernel_rfl) (by kernel_rfl) (by kernel_rfl) ?q15d ?y15d hHeld ?r15d
    case o15d => simp only [List.getElem?_toArray, List.getElem?_cons_succ, List.getElem?_cons_zero]; rfl
    case q15d => exact fun _ _ _ h => h
    case y15d => (refine Or.inl ⟨rfl, ?_⟩; intro wq hq; obtain ⟨⟨a0, a1, a2, a3⟩, b0, b1, b2, b3⟩ := HS.out wq hq; go_simp; try with_reducible rfl)
    simp only [Act.put, List.setIfInBounds_toArray, List.set_cons_zero, List.set_cons_succ]
    refine wpAnyH_take (i := 16) (oi := ?p16d) (v := ?v16d) ?o16d (by kernel_rfl) (by kernel_rfl) (by kernel_rfl) ?q16d ?y16d hHeld ?r16d
    case o16d => simp only [List.getElem?_toArray, List.getElem?_cons_succ, List.getElem?_cons_zero]; rfl
    case q16d => exact fun _ _ _ h => h
    case y16d => (refine Or.inl ⟨rfl, ?_⟩; intro wq hq; obtain ⟨⟨a0, a1, a2, a3⟩, b0, b1, b2, b3⟩ := HS.out wq hq; go_simp; try with_reducible rfl)
    simp only [Act.put, List.setIfInBounds_toArray, List.set_cons_zero, List.set_cons_succ]
    refine wpAnyH_take (i := 17) (oi := ?p17d) (v := ?v17d) ?o17d (by kernel_rfl) (by kernel_rfl) (by kernel_rfl) ?q17d ?y17d hHeld ?r17d
    case o17d => simp only [List.getElem?_toArray, List.getElem?_cons_succ, List.getElem?_cons_zero]; rfl
    case q17d => exact fun _ _ _ h => h
    case y17d => (refine Or.inl ⟨rfl, ?_⟩; intro wq hq; obtain ⟨⟨a0, a1, a2, a3⟩, b0, b1, b2, b3⟩ := HS.out wq hq; go_simp; try with_reducible rfl)
    simp only [Act.put, List.setIfInBounds_toArray, List.set_cons_zero, List.set_cons_succ]
    refine wpAnyH_take (i := 18) (oi := ?p18d) (v := ?v18d) ?o18d (by kernel_rfl) (by kernel_rfl) (by kernel_rfl) ?q18d ?y18d hHeld ?r18d
    case o18d => simp only [List.getElem?_toArray, List.getElem?_cons_succ, List.getElem?_cons_zero]; rfl
    case q18d => exact fun _ _ _ h => h
    case y18d => (refine Or.inl ⟨rfl, ?_⟩; intro wq hq; obtain ⟨⟨a0, a1, a2, a3⟩, b0, b1, b2, b3⟩ := HS.out wq hq; go_simp; try with_reducible rfl)
    simp only [Act.put, List.setIfInBounds_toArray, List.set_cons_zero, List.set_cons_succ]
    refine wpAnyH_take (i := 19) (oi := ?p19d) (v := ?v19d) ?o19d (by kernel_rfl) (by kernel_rfl) (by kernel_rfl) ?q19d ?y19d hHeld ?r19d
    case o19d => simp only [List.getElem?_toArray, List.getElem?_cons_succ, List.getElem?_cons_zero]; rfl
    case q19d => exact fun _ _ _ h => h
    case y19d => (refine Or.inl ⟨rfl, ?_⟩; intro wq hq; obtain ⟨⟨a0, a1, a2, a3⟩, b0, b1, b2, b3⟩ := HS.out wq hq; go_simp; try with_reducible rfl)
    simp only [Act.put, List.setIfInBounds_toArray, List.set_cons_zero, List.set_cons_succ]
    refine wpAnyH_take (i := 20) (oi := ?p20d) (v := ?v20d) ?o20d (by kernel_rfl) (by kernel_rfl) (by kernel_rfl) ?q20d ?y20d hHeld ?r20d
    case o20d => simp only [List.getElem?_toArray, List.getElem?_cons_succ, List.getElem?_cons_zero]; rfl
    case q20d => exact fun _ _ _ h => h
    case y20d => (refine Or.inl ⟨rfl, ?_⟩; intro wq hq; obtain ⟨⟨a0, a1, a2, a3⟩, b0, b1, b2, b3⟩ := HS.out wq hq; go_simp; try with_reducible rfl)
    simp only [Act.put, List.setIfInBounds_toArray, List.set_cons_zero, List.set_cons_succ]
    refine wpAnyH_take (i := 21) (oi := ?p21d) (v := ?v21d) ?o21d (by kernel_rfl) (by kernel_rfl) (by kernel_rfl) ?q21d ?y21d hHeld ?r21d
    case o21d => simp only [List.getElem?_toArray, List.getElem?_cons_succ, List.getElem?_cons_zero]; rfl
    case q21d => exact fun _ _ _ h => h
    case y21d => (refine Or.inl ⟨rfl, ?_⟩; intro wq hq; obtain ⟨⟨a0, a1, a2, a3⟩, b0, b1, b2, b3⟩ := HS.out wq hq; go_simp; try with_reducible rfl)
    simp only [Act.put, List.setIfInBounds_toArray, List.set_cons_zero, List.set_cons_succ]
    refine wpAnyH_take (i := 22) (oi := ?p22d) (v := ?v22d) ?o22d (by kernel_rfl) (by kernel_rfl) (by kernel_rfl) ?q22d ?y22d hHeld ?r22d
    case o22d => simp only [List.getElem?_toArray, List.getElem?_cons_succ, List.getElem?_cons_zero]; rfl
    case q22d => exact fun _ _ _ h => h
    case y22d => (refine Or.inl ⟨rfl, ?_⟩; intro wq hq; obtain ⟨⟨a0, a1, a2, a3⟩, b0, b1, b2, b3⟩ := HS.out wq hq; go_simp; try with_reducible rfl)
    simp only [Act.put, List.setIfInBounds_toArray, List.set_cons_zero, List.set_cons_succ]
    refine wpAnyH_done (by kernel_rfl) ?_ _
    go_wp2
    go_ret
    exact ⟨by rw [HE.out]; rfl, bel_up HB2.out B1 (Nat.le_refl _)⟩
end Go.Proofs.Ytajgjkkggppbiaa
