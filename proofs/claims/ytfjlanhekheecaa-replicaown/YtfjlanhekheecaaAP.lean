/-
  What an acceptor may follow; its votes; a promise.
-/
import Derived.Test.YtfjlanhekheecaaAO
namespace Go.Proofs.Ytfjlanhekheecaa.Na
open Go.RowKit
set_option linter.unusedVariables false
open Go.Proofs.Ytfjlanhekheecaa.M (E V)

set_option maxRecDepth 100000 in
set_option maxHeartbeats 1000000 in
theorem may_any {w : World} {base b : Nat} {v : Value} {a : M.S} (h : AI w base b v a) (x : E) : Calls Try.prog 48 #[.pointer (some ⟨b, 0, none⟩), bV x] w fun e w' => e = .returned (.bool (M.may a x)) ∧ Below w.heap.size w w' := by
  have HM : Hid (M.may a x = (M.vld x && decide (0 ≤ M.cmpE x a.p))) := rfl
  rw [HM.out]
  clear HM
  obtain ⟨W1, HW1⟩ : ∃ W1, Hid (w.alloc (.cells #[.int .i64 x.i, .int .i64 x.t] 30) = W1) := ⟨_, rfl⟩
  have HB1 : Hid (Below w.heap.size w W1) := by rw [← HW1.out]; exact bel1 w _
  have HS : Hid (∀ w', Below W1.heap.size W1 w' → (w'.cell? ⟨w.heap.size, 0, none⟩ = some (.int .i64 x.i) ∧ w'.cell? ⟨w.heap.size, 1, none⟩ = some (.int .i64 x.t)) ∧ (w'.cell? ⟨b, 0, none⟩ = some (.int .i64 a.p.i) ∧ w'.cell? ⟨b, 1, none⟩ = some (.int .i64 a.p.t) ∧ w'.cell? ⟨b, 2, none⟩ = some (.int .i64 a.base) ∧ w'.cell? ⟨b, 3, none⟩ = some v)) := by
    intro w' hb
    have h1 : W1.heap[w.heap.size]? = some (.cells #[.int .i64 x.i, .int .i64 x.t] 30 (0, 0)) := by rw [← HW1.out]; exact heap_alloc_last w _
    exact ⟨(row2 (bel_row h1 hb)).1, (row4 (bel_row (bel_row h.row HB1.out) hb)).1⟩
  have hv := fun W => valid_any x W
  clear h
  cases hx : M.vld x with
  | true =>
    rw [hx] at hv
    clear hx
    rw [Bool.true_and]
    go_enter Try.func48, Try.ntmps48
    go_wp2_with fail
    rw [HW1.out]
    clear HW1
    refine wp_region_held_drew (S := fun wq => Below (W1).heap.size (W1) wq) (by kernel_rfl) (Below.drew (Below.refl _ _)) (fun hHeld => ?_)
    refine wpAnyH_take (i := 0) (oi := ?p0a) (v := ?v0a) ?o0a (by kernel_rfl) (by kernel_rfl) (by kernel_rfl) ?q0a ?y0a hHeld ?r0a
    case o0a => simp only [List.getElem?_toArray, List.getElem?_cons_zero]; rfl
    case q0a => exact fun _ _ _ h => h
    case y0a => (refine Or.inl ⟨rfl, ?_⟩; intro wq hq; obtain ⟨⟨z0, z1⟩, ⟨y0, y1, y2, y3⟩⟩ := HS.out wq hq; go_simp; try with_reducible rfl)
    simp only [Act.put, List.setIfInBounds_toArray, List.set_cons_zero, List.set_cons_succ]
    refine wpAnyH_ready (rs := [1]) (by kernel_rfl) (by simp) ?_
    refine AllReadyH.cons (o := ?p1a) ?o1a ?s1a AllReadyH.nil
    case o1a => simp only [List.getElem?_toArray, List.getElem?_cons_succ, List.getElem?_cons_zero]; rfl
    intro K hK
    go_simp
    refine (hv _).mono ?_
    rintro e v1 ⟨rfl, hb⟩
    have B1 : Below W1.heap.size W1 v1 := hHeld.trans (hb.mono hHeld.size)
    clear hb
    refine hK.out _ _ B1 (fun hHeld => ?_)
    clear hK K
    refine wpAnyH_take (i := 2) (oi := ?p2a) (v := ?v2a) ?o2a (by kernel_rfl) (by kernel_rfl) (by kernel_rfl) ?q2a ?y2a hHeld ?r2a
    case o2a => simp only [List.getElem?_toArray, List.getElem?_cons_succ, List.getElem?_cons_zero]; rfl
    case q2a => exact fun _ _ _ h => h
    case y2a => (refine Or.inl ⟨rfl, ?_⟩; intro wq hq; obtain ⟨⟨z0, z1⟩, ⟨y0, y1, y2, y3⟩⟩ := HS.out wq hq; go_simp; try with_reducible rfl)
    simp only [Act.put, List.setIfInBounds_toArray, List.set_cons_zero, List.set_cons_succ]
    refine wpAnyH_take (i := 3) (oi := ?p3a) (v := ?v3a) ?o3a (by kernel_rfl) (by kernel_rfl) (by kernel_rfl) ?q3a ?y3a hHeld ?r3a
    case o3a => simp only [List.getElem?_toArray, List.getElem?_cons_succ, List.getElem?_cons_zero]; rfl
    case q3a => exact fun _ _ _ h => h
    case y3a => (refine Or.inl ⟨rfl, ?_⟩; intro wq hq; obtain ⟨⟨z0, z1⟩, ⟨y0, y1, y2, y3⟩⟩ := HS.out wq hq; go_simp; try with_reducible rfl)
    simp only [Act.put, List.setIfInBounds_toArray, List.set_cons_zero, List.set_cons_succ]
    refine wpAnyH_take (i := 4) (oi := ?p4a) (v := ?v4a) ?o4a (by kernel_rfl) (by kernel_rfl) (by kernel_rfl) ?q4a ?y4a hHeld ?r4a
    case o4a => simp only [List.getElem?_toArray, List.getElem?_cons_succ, List.getElem?_cons_zero]; rfl
    case q4a => exact fun _ _ _ h => h
    case y4a => (refine Or.inl ⟨rfl, ?_⟩; intro wq hq; obtain ⟨⟨z0, z1⟩, ⟨y0, y1, y2, y3⟩⟩ := HS.out wq hq; go_simp; try with_reducible rfl)
    simp only [Act.put, List.setIfInBounds_toArray, List.set_cons_zero, List.set_cons_succ]
    refine wpAnyH_take (i := 5) (oi := ?p5a) (v := ?v5a) ?o5a (by kernel_rfl) (by kernel_rfl) (by kernel_rfl) ?q5a ?y5a hHeld ?r5a
    case o5a => simp only [List.getElem?_toArray, List.getElem?_cons_succ, List.getElem?_cons_zero]; rfl
    case q5a => exact fun _ _ _ h => h
    case y5a => (refine Or.inl ⟨rfl, ?_⟩; intro wq hq; obtain ⟨⟨z0, z1⟩, ⟨y0, y1, y2, y3⟩⟩ := HS.out wq hq; go_simp; try with_reducible rfl)
    simp only [Act.put, List.setIfInBounds_toArray, List.set_cons_zero, List.set_cons_succ]
    refine wpAnyH_take (i := 6) (oi := ?p6a) (v := ?v6a) ?o6a (by kernel_rfl) (by kernel_rfl) (by kernel_rfl) ?q6a ?y6a hHeld ?r6a
    case o6a => simp only [List.getElem?_toArray, List.getElem?_cons_succ, List.getElem?_cons_zero]; rfl
    case q6a => exact fun _ _ _ h => h
    case y6a => (refine Or.inl ⟨rfl, ?_⟩; intro wq hq; obtain ⟨⟨z0, z1⟩, ⟨y0, y1, y2, y3⟩⟩ := HS.out wq hq; go_simp; try with_reducible rfl)
    simp only [Act.put, List.setIfInBounds_toArray, List.set_cons_zero, List.set_cons_succ]
    refine wpAnyH_take (i := 7) (oi := ?p7a) (v := ?v7a) ?o7a (by kernel_rfl) (by kernel_rfl) (by kernel_rfl) ?q7a ?y7a hHeld ?r7a
    case o7a => simp only [List.getElem?_toArray, List.getElem?_cons_succ, List.getElem?_cons_zero]; rfl
    case q7a => exact fun _ _ _ h => h
    case y7a => (refine Or.inl ⟨rfl, ?_⟩; intro wq hq; obtain ⟨⟨z0, z1⟩, ⟨y0, y1, y2, y3⟩⟩ := HS.out wq hq; go_simp; try with_reducible rfl)
    simp only [Act.put, List.setIfInBounds_toArray, List.set_cons_zero, List.set_cons_succ]
    refine wpAnyH_ready (rs := [8]) (by kernel_rfl) (by simp) ?_
    refine AllReadyH.cons (o := ?p8a) ?o8a ?s8a AllReadyH.nil
    case o8a => simp only [List.getElem?_toArray, List.getElem?_cons_succ, List.getElem?_cons_zero]; rfl
    intro K hK
    go_simp
    refine (cmp_any x a.p _).mono ?_
    rintro e v8 ⟨rfl, hb⟩
    have B8 : Below W1.heap.size W1 v8 := hHeld.trans (hb.mono hHeld.size)
    clear hb
    refine hK.out _ _ B8 (fun hHeld => ?_)
    clear hK K
    refine wpAnyH_take (i := 9) (oi := ?p9a) (v := ?v9a) ?o9a (by kernel_rfl) (by kernel_rfl) (by kernel_rfl) ?q9a ?y9a hHeld ?r9a
    case o9a => simp only [List.getElem?_toArray, List.getElem?_cons_succ, List.getElem?_cons_zero]; rfl
    case q9a => exact fun _ _ _ h => h
    case y9a => (refine Or.inl ⟨rfl, ?_⟩; intro wq hq; obtain ⟨⟨z0, z1⟩, ⟨y0, y1, y2, y3⟩⟩ := HS.out wq hq; go_simp; try with_reducible rfl)
    simp only [Act.put, List.setIfInBounds_toArray, List.set_cons_zero, List.set_cons_succ]
    refine wpAnyH_take (i := 10) (oi := ?p10a) (v := ?v10a) ?o10a (by kernel_rfl) (by kernel_rfl) (by kernel_rfl) ?q10a ?y10a hHeld ?r10a
    case o10a => simp only [List.getElem?_toArray, List.getElem?_cons_succ, List.getElem?_cons_zero]; rfl
    case q10a => exact fun _ _ _ h => h
    case y10a => (refine Or.inl ⟨rfl, ?_⟩; intro wq hq; obtain ⟨⟨z0, z1⟩, ⟨y0, y1, y2, y3⟩⟩ := HS.out wq hq; go_simp; try with_reducible rfl)
    simp only [Act.put, List.setIfInBounds_toArray, List.set_cons_zero, List.set_cons_succ]
    refine wpAnyH_take (i := 11) (oi := ?p11a) (v := ?v11a) ?o11a (by kernel_rfl) (by kernel_rfl) (by kernel_rfl) ?q11a ?y11a hHeld ?r11a
    case o11a => simp only [List.getElem?_toArray, List.getElem?_cons_succ, List.getElem?_cons_zero]; rfl
    case q11a => exact fun _ _ _ h => h
    case y11a => (refine Or.inl ⟨rfl, ?_⟩; intro wq hq; obtain ⟨⟨z0, z1⟩, ⟨y0, y1, y2, y3⟩⟩ := HS.out wq hq; go_simp; try with_reducible rfl)
    simp only [Act.put, List.setIfInBounds_toArray, List.set_cons_zero, List.set_cons_succ]
    refine wpAnyH_done (by kernel_rfl) ?_ _
    go_wp2
    go_ret
    exact ⟨rfl, bel_up HB1.out hHeld (Nat.le_refl _)⟩
  | false =>
    rw [hx] at hv
    clear hx
    rw [Bool.false_and]
    go_enter Try.func48, Try.ntmps48
    go_wp2_with fail
    rw [HW1.out]
    clear HW1
    refine wp_region_held_drew (S := fun wq => Below (W1).heap.size (W1) wq) (by kernel_rfl) (Below.drew (Below.refl _ _)) (fun hHeld => ?_)
    refine wpAnyH_take (i := 0) (oi := ?p0b) (v := ?v0b) ?o0b (by kernel_rfl) (by kernel_rfl) (by kernel_rfl) ?q0b ?y0b hHeld ?r0b
    case o0b => simp only [List.getElem?_toArray, List.getElem?_cons_zero]; rfl
    case q0b => exact fun _ _ _ h => h
    case y0b => (refine Or.inl ⟨rfl, ?_⟩; intro wq hq; obtain ⟨⟨z0, z1⟩, ⟨y0, y1, y2, y3⟩⟩ := HS.out wq hq; go_simp; try with_reducible rfl)
    simp only [Act.put, List.setIfInBounds_toArray, List.set_cons_zero, List.set_cons_succ]
    refine wpAnyH_ready (rs := [1]) (by kernel_rfl) (by simp) ?_
    refine AllReadyH.cons (o := ?p1b) ?o1b ?s1b AllReadyH.nil
    case o1b => simp only [List.getElem?_toArray, List.getElem?_cons_succ, List.getElem?_cons_zero]; rfl
    intro K hK
    go_simp
    refine (hv _).mono ?_
    rintro e v1 ⟨rfl, hb⟩
    have B1 : Below W1.heap.size W1 v1 := hHeld.trans (hb.mono hHeld.size)
    clear hb
    refine hK.out _ _ B1 (fun hHeld => ?_)
    clear hK K
    refine wpAnyH_take (i := 2) (oi := ?p2b) (v := ?v2b) ?o2b (by kernel_rfl) (by kernel_rfl) (by kernel_rfl) ?q2b ?y2b hHeld ?r2b
    case o2b => simp only [List.getElem?_toArray, List.getElem?_cons_succ, List.getElem?_cons_zero]; rfl
    case q2b => exact fun _ _ _ h => h
    case y2b => (refine Or.inl ⟨rfl, ?_⟩; intro wq hq; obtain ⟨⟨z0, z1⟩, ⟨y0, y1, y2, y3⟩⟩ := HS.out wq hq; go_simp; try with_reducible rfl)
    simp only [Act.put, List.setIfInBounds_toArray, List.set_cons_zero, List.set_cons_succ]
    refine wpAnyH_take (i := 3) (oi := ?p3b) (v := undef) ?o3b (by kernel_rfl) (by kernel_rfl) (by kernel_rfl) ?q3b ?y3b hHeld ?r3b
    case o3b => simp only [List.getElem?_toArray, List.getElem?_cons_succ, List.getElem?_cons_zero]; rfl
    case q3b => exact fun _ _ _ h => h
    case y3b => exact Or.inr ⟨rfl, rfl⟩
    simp only [Act.put, List.setIfInBounds_toArray, List.set_cons_zero, List.set_cons_succ]
    refine wpAnyH_take (i := 4) (oi := ?p4b) (v := undef) ?o4b (by kernel_rfl) (by kernel_rfl) (by kernel_rfl) ?q4b ?y4b hHeld ?r4b
    case o4b => simp only [List.getElem?_toArray, List.getElem?_cons_succ, List.getElem?_cons_zero]; rfl
    case q4b => exact fun _ _ _ h => h
    case y4b => exact Or.inr ⟨rfl, rfl⟩
    simp only [Act.put, List.setIfInBounds_toArray, List.set_cons_zero, List.set_cons_succ]
    refine wpAnyH_take (i := 5) (oi := ?p5b) (v := undef) ?o5b (by kernel_rfl) (by kernel_rfl) (by kernel_rfl) ?q5b ?y5b hHeld ?r5b
    case o5b => simp only [List.getElem?_toArray, List.getElem?_cons_succ, List.getElem?_cons_zero]; rfl
    case q5b => exact fun _ _ _ h => h
    case y5b => exact Or.inr ⟨rfl, rfl⟩
    simp only [Act.put, List.setIfInBounds_toArray, List.set_cons_zero, List.set_cons_succ]
    refine wpAnyH_take (i := 6) (oi := ?p6b) (v := undef) ?o6b (by kernel_rfl) (by kernel_rfl) (by kernel_rfl) ?q6b ?y6b hHeld ?r6b
    case o6b => simp only [List.getElem?_toArray, List.getElem?_cons_succ, List.getElem?_cons_zero]; rfl
    case q6b => exact fun _ _ _ h => h
    case y6b => exact Or.inr ⟨rfl, rfl⟩
    simp only [Act.put, List.setIfInBounds_toArray, List.set_cons_zero, List.set_cons_succ]
    refine wpAnyH_take (i := 7) (oi := ?p7b) (v := undef) ?o7b (by kernel_rfl) (by kernel_rfl) (by kernel_rfl) ?q7b ?y7b hHeld ?r7b
    case o7b => simp only [List.getElem?_toArray, List.getElem?_cons_succ, List.getElem?_cons_zero]; rfl
    case q7b => exact fun _ _ _ h => h
    case y7b => exact Or.inr ⟨rfl, rfl⟩
    simp only [Act.put, List.setIfInBounds_toArray, List.set_cons_zero, List.set_cons_succ]
    refine wpAnyH_take (i := 8) (oi := ?p8b) (v := undef) ?o8b (by kernel_rfl) (by kernel_rfl) (by kernel_rfl) ?q8b ?y8b hHeld ?r8b
    case o8b => simp only [List.getElem?_toArray, List.getElem?_cons_succ, List.getElem?_cons_zero]; rfl
    case q8b => exact fun _ _ _ h => h
    case y8b => exact Or.inr ⟨rfl, rfl⟩
    simp only [Act.put, List.setIfInBounds_toArray, List.set_cons_zero, List.set_cons_succ]
    refine wpAnyH_take (i := 9) (oi := ?p9b) (v := undef) ?o9b (by kernel_rfl) (by kernel_rfl) (by kernel_rfl) ?q9b ?y9b hHeld ?r9b
    case o9b => simp only [List.getElem?_toArray, List.getElem?_cons_succ, List.getElem?_cons_zero]; rfl
    case q9b => exact fun _ _ _ h => h
    case y9b => exact Or.inr ⟨rfl, rfl⟩
    simp only [Act.put, List.setIfInBounds_toArray, List.set_cons_zero, List.set_cons_succ]
    refine wpAnyH_take (i := 10) (oi := ?p10b) (v := ?v10b) ?o10b (by kernel_rfl) (by kernel_rfl) (by kernel_rfl) ?q10b ?y10b hHeld ?r10b
    case o10b => simp only [List.getElem?_toArray, List.getElem?_cons_succ, List.getElem?_cons_zero]; rfl
    case q10b => exact fun _ _ _ h => h
    case y10b => (refine Or.inl ⟨rfl, ?_⟩; intro wq hq; obtain ⟨⟨z0, z1⟩, ⟨y0, y1, y2, y3⟩⟩ := HS.out wq hq; go_simp; try with_reducible rfl)
    simp only [Act.put, List.setIfInBounds_toArray, List.set_cons_zero, List.set_cons_succ]
    refine wpAnyH_take (i := 11) (oi := ?p11b) (v := ?v11b) ?o11b (by kernel_rfl) (by kernel_rfl) (by kernel_rfl) ?q11b ?y11b hHeld ?r11b
    case o11b => simp only [List.getElem?_toArray, List.getElem?_cons_succ, List.getElem?_cons_zero]; rfl
    case q11b => exact fun _ _ _ h => h
    case y11b => (refine Or.inl ⟨rfl, ?_⟩; intro wq hq; obtain ⟨⟨z0, z1⟩, ⟨y0, y1, y2, y3⟩⟩ := HS.out wq hq; go_simp; try with_reducible rfl)
    simp only [Act.put, List.setIfInBounds_toArray, List.set_cons_zero, List.set_cons_succ]
    refine wpAnyH_done (by kernel_rfl) ?_ _
    go_wp2
    go_ret
    exact ⟨rfl, bel_up HB1.out hHeld (Nat.le_refl _)⟩
theorem _root_.Go.Proofs.Ytfjlanhekheecaa.OwnL.adr {α : Type} {Y : Ly α} {t : TypeId} {w : World} {base n cap : Nat} {ad : Option Addr} {l : List α} (h : OwnL Y t w base (.slice ad n cap) l) : (ad = none ∧ cap = 0) ∨ ∃ g, ad = some ⟨g, 0, none⟩ := by
  rcases h.2 with ⟨e, _⟩ | ⟨g, c, _, e, _⟩
  · simp at e; exact .inl ⟨e.1, e.2.2⟩
  · simp at e; exact .inr ⟨g, e.1⟩
/-- One more, appended. -/
theorem app1 {w : World} {base : Nat} {v : Value} {l : List V} (x : V) (ho : OwnL vl 42 w base v l) (hb : base ≤ w.heap.size) (hl : l.length + 1 ≤ 1000000) :
    ∃ a' c' w', (∀ ty, (Builtin.append_ #[27, 27] ty #[v, .slice (some ⟨w.heap.size, 0, none⟩) 1 1]).run Try.prog (w.alloc (.cells #[.int .i64 x.s, .int .i64 x.b.i, .int .i64 x.b.t, .string x.v] 42)) = .ok (.slice a' (l.length + 1) c') w') ∧ OwnL vl 42 w' base (.slice a' (l.length + 1) c') (l ++ [x]) ∧ Rw w v w' (.slice a' (l.length + 1) c') := by
  obtain ⟨a', c', w4, hrun, ho4, hr4⟩ := run_appL_ty tiV (w.alloc (.cells #[.int .i64 x.s, .int .i64 x.b.i, .int .i64 x.b.t, .string x.v] 42)) base v l [x] w.heap.size 0 1 1 (ho.keep (bel1 w _)) (atL_one (t := 42) (heap_alloc_last w _)) rfl (by simp; omega) (by simp; omega)
  exact ⟨a', c', w4, hrun, ho4, (Rw.ofBelow _ (bel1 w _)).trans hr4⟩
/-- A row that a call returned: new. -/
def RV (w : World) (l : List V) (e : Ending) (w' : World) : Prop := ∃ v, e = .returned v ∧ OwnL vl 42 w' w.heap.size v l ∧ Below w.heap.size w w'
theorem RV.mono {w : World} {l : List V} {e : Ending} {w' : World} (h : RV w l e w') : ∃ a c, e = .returned (.slice a l.length c) ∧ XL vl w' a c l ∧ OwnL vl 42 w' w.heap.size (.slice a l.length c) l ∧ Below w.heap.size w w' := by
  obtain ⟨v, rfl, h1, h2⟩ := h
  obtain ⟨a, c, rfl, hx, _⟩ := h1.at
  exact ⟨a, c, rfl, hx, h1, h2⟩
set_option maxRecDepth 100000 in
set_option maxHeartbeats 1000000 in
theorem votes_any {w : World} {base b : Nat} {v : Value} {a : M.S} (h : AI w base b v a) (ok : M.Ok a) (kk : Int) : Calls Try.prog 49 #[.pointer (some ⟨b, 0, none⟩), .int .i64 kk] w (RV w (M.vts a.l kk)) := by
  obtain ⟨ad, cap, rfl, hxl, hbl⟩ := h.own.at
  have hlen := ok.len
  have hcap := hxl.le
  have hmx : cap ≤ 9223372036854775807 := by have := hxl.mx; unfold maxLen at this; omega
  have hpl := place_any ad cap a.l kk w (by omega) hxl.at' ok.up
  obtain ⟨⟨c0, c1, c2, c3⟩, _⟩ := row4 h.row
  have HR := Hid_of h.row
  have HAt := Hid_of hxl
  have HSZ := Hid_of (fun x hx => Nat.le_trans (ok.vs x hx) (by decide : 4096 ≤ 140737488351232))
  have HA := Hid_of h.own.adr
  clear ok h hxl hbl
  go_enter Try.func49, Try.ntmps49
  go_wp2_with fail
  refine hpl.mono ?_
  rintro e w1 ⟨r, bb, rfl, hs, hb1⟩
  have HD := Hid_of hs.drop
  have hrl := hs.le
  obtain ⟨⟨d0, d1, d2, d3⟩, _⟩ := row4 (bel_row HR.out hb1)
  have hx1 := HAt.out.keep hb1
  have HB1 := Hid_of hb1
  clear hs hb1 hpl c0 c1 c2 c3 HR HAt
  have HZD : Hid (∀ x ∈ a.l.drop r, x.v.size ≤ 140737488351232) := fun x hx => HSZ.out x (List.mem_of_mem_drop hx)
  have hls : (a.l.drop r).length = a.l.length - r := by simp
  by_cases hcr : cap = r
  · have hnr : a.l.length = r := by omega
    have HAt : Hid (AtL vl w1 ad (a.l.drop r)) := by
      rw [List.drop_of_length_le (by omega)]
      exact AtL.nil _ _
    subst hcr
    clear hx1 HSZ
    generalize a.l.drop cap = D at *
    generalize a.l.length = L at *
    go_wp2
    go_loopw [28, 7] (fun i u wr => ∃ k : Nat, k ≤ D.length ∧ i = .int .i64 k ∧ OwnL vl 42 wr w1.heap.size u (D.take k) ∧ Below w1.heap.size w1 wr) (fun i u _ => D.length - (intOf i).toNat)
    case atStart => exact ⟨0, Nat.zero_le _, rfl, OwnL.nil _ _ _, Below.refl _ _⟩
    case round =>
      obtain ⟨k, hk, rfl, ho, hbl⟩ := hrel
      obtain ⟨a1, cap1, hv1, hx1, _⟩ := ho.at
      have hlen : (D.take k).length = k := by simp; omega
      rw [hlen] at hv1
      subst hv1
      by_cases hlt : k < D.length
      · exact absurd hlt (by omega)
      · obtain rfl : k = D.length := by omega
        have HQ : Hid (RV w (M.vts a.l kk) (.returned (.slice a1 D.length cap1)) wr) := by
          rw [← HD.out]
          exact ⟨_, rfl, by rw [List.take_of_length_le (Nat.le_refl _)] at ho; exact ho.low HB1.out.size, bel_up HB1.out hbl (Nat.le_refl _)⟩
        clear ho hbl hx1
        go_wp2
        go_ret
        exact HQ.out
  · obtain ⟨g, rfl⟩ : ∃ g, ad = some ⟨g, 0, none⟩ := by
      rcases HA.out with ⟨_, h0⟩ | h0
      · omega
      · exact h0
    have HAt : Hid (AtL vl w1 (some ⟨g, r * 4, none⟩) (a.l.drop r)) := by
      have e := hx1.at'.drop r
      rw [Nat.zero_add] at e
      exact e
    clear hx1 HSZ
    generalize a.l.drop r = D at *
    generalize a.l.length = L at *
    go_wp2
    go_loopw [28, 7] (fun i u wr => ∃ k : Nat, k ≤ D.length ∧ i = .int .i64 k ∧ OwnL vl 42 wr w1.heap.size u (D.take k) ∧ Below w1.heap.size w1 wr) (fun i u _ => D.length - (intOf i).toNat)
    case atStart => exact ⟨0, Nat.zero_le _, rfl, OwnL.nil _ _ _, Below.refl _ _⟩
    case round =>
      obtain ⟨k, hk, rfl, ho, hbl⟩ := hrel
      obtain ⟨a1, cap1, hv1, hx1, _⟩ := ho.at
      have hlen : (D.take k).length = k := by simp; omega
      rw [hlen] at hv1
      subst hv1
      by_cases hlt : k < D.length
      · obtain ⟨g0, off0, eA, q0, q1, q2, q3⟩ := (HAt.out.keep hbl).getV k hlt
        have HT : Hid (D.take (k + 1) = D.take k ++ [D[k]]) := Hid_of (List.take_succ_eq_append_getElem hlt)
        obtain ⟨W1, HW1⟩ : ∃ W1, Hid (wr.alloc (.cells #[.int .i64 D[k].s, .int .i64 D[k].b.i, .int .i64 D[k].b.t, .string D[k].v] 42) = W1) := ⟨_, Hid_of rfl⟩
        have hb1 : Below wr.heap.size wr W1 := by rw [← HW1.out]; exact bel1 wr _
        have hbox : W1.heap[wr.heap.size]? = some (.cells #[.int .i64 D[k].s, .int .i64 D[k].b.i, .int .i64 D[k].b.t, .string D[k].v] 42 (0, 0)) := by rw [← HW1.out]; exact heap_alloc_last wr _
        obtain ⟨⟨z0, z1, z2, z3⟩, _⟩ := row4 hbox
        have how := own_any D[k] W1 (HZD.out _ (List.getElem_mem _))
        have HO := Hid_of ho
        have HBL := Hid_of hbl
        have HB := Hid_of hb1
        clear ho hbl hx1 hb1 hbox
        generalize D[k] = x at *
        obtain ⟨s, ⟨i, t⟩, vv⟩ := x
        simp only [vV] at how q0 q1 q2 q3 z0 z1 z2 z3
        cases eA
        go_upto_region 8 with fail
        rw [HW1.out]
        go_wp2_with fail
        refine how.mono ?_
        rintro e w2 ⟨rfl, hb2⟩
        have ho2 := (HO.out.keep HB.out).keep hb2
        have hbw : Below wr.heap.size wr w2 := bel_up HB.out hb2 (Nat.le_refl _)
        obtain ⟨a', c', w4, hrun, ho4, hr4⟩ := app1 ⟨s, ⟨i, t⟩, vv⟩ ho2 (by have := HBL.out.size; have := hbw.size; omega) (by rw [hlen]; omega)
        rw [hlen] at hrun ho4 hr4
        simp only at hrun
        have hr6 : Rw wr (.slice a1 k cap1) w4 (.slice a' (k + 1) c') := (Rw.ofBelow _ hbw).trans hr4
        have HB4 : Hid (Below w1.heap.size w1 w4) := HBL.out.trans (hr6.below (fun j hj => (HO.out.lt hj).1) HBL.out.size)
        have HO4 := Hid_of ho4
        clear how ho2 hbw ho4 hr4 hr6 hb2 HO HBL HB
        go_wp2_with (at_builtin; refine wpList_append_known rfl _ _ 27 rfl _ _ rfl rfl _ _ (hrun _) ?_)
        go_roundw
        case rel => exact ⟨k + 1, by omega, by go_num, by rw [HT.out]; exact HO4.out, HB4.out⟩
        case measure => simp [intOf]; omega
      · obtain rfl : k = D.length := by omega
        have HQ : Hid (RV w (M.vts a.l kk) (.returned (.slice a1 D.length cap1)) wr) := by
          rw [← HD.out]
          exact ⟨_, rfl, by rw [List.take_of_length_le (Nat.le_refl _)] at ho; exact ho.low HB1.out.size, bel_up HB1.out hbl (Nat.le_refl _)⟩
        clear ho hbl hx1
        go_wp2
        go_ret
        exact HQ.out
end Go.Proofs.Ytfjlanhekheecaa.Na
