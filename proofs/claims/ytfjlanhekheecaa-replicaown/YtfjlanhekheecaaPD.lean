/-
  The greatest of some ballots, as the program finds it and as the document tells it.
-/
import Derived.Test.YtfjlanhekheecaaC
namespace Go.Proofs.Ytfjlanhekheecaa.Np
open Go.RowKit
set_option linter.unusedVariables false
open Go.Proofs.Ytfjlanhekheecaa.M (E V)

/-- Two cells of a block set. -/
def put2 (w : World) (g : Nat) (a b : Value) : World := (w.setCell ⟨g, 0, none⟩ a).setCell ⟨g, 1, none⟩ b
theorem put2_row {w : World} {g : Nat} {t : TypeId} {v0 v1 : Value} (h : w.heap[g]? = some (.cells #[v0, v1] t (0, 0))) (a b : Value) : (put2 w g a b).heap[g]? = some (.cells #[a, b] t (0, 0)) :=
  heap_setCell_same _ g 1 _ _ _ (heap_setCell_same w g 0 _ _ _ h)
theorem put2_bel {w0 w : World} {B g : Nat} (h : Below B w0 w) (hg : B ≤ g) (a b : Value) : Below B w0 (put2 w g a b) := (h.setCell hg _).setCell hg _
theorem put2_oth {w : World} {g k : Nat} (h : k ≠ g) (a b : Value) : (put2 w g a b).heap[k]? = w.heap[k]? := by
  unfold put2
  rw [heap_setCell_other _ ⟨g, 1, none⟩ k _ h, heap_setCell_other _ ⟨g, 0, none⟩ k _ h]

set_option maxRecDepth 100000 in
set_option maxHeartbeats 1000000 in
theorem greatest_any (a : Option Addr) (cap : Nat) (l : List E) (w : World) (hat : AtL bl w a l) (hl : l.length ≤ 1000000) :
    Calls Try.prog 60 #[.slice a l.length cap] w fun e w' => e = .returned (.int .i64 (M.bi l l.length)) ∧ Below w.heap.size w w' := by
  go_enter Try.func60, Try.ntmps60
  go_wp2
  go_loopw [3, 8] (fun be i wr => ∃ k : Nat, k ≤ l.length ∧ i = .int .i64 k ∧ be = .int .i64 (M.bi l k) ∧ Below w.heap.size w wr) (fun _ i _ => l.length - (intOf i).toNat)
  case atStart => exact ⟨0, by omega, rfl, rfl, Below.refl _ _⟩
  case round =>
    obtain ⟨k, hk, rfl, rfl, hb⟩ := hrel
    have HB := Hid_of hb
    by_cases hlt : k < l.length
    · have hat' := hat.keep hb
      obtain ⟨b, off, rfl, c0, c1⟩ := hat'.getB k hlt
      have hki : (k : Int) < (l.length : Int) := by omega
      obtain ⟨x, HX⟩ : ∃ x, Hid (l[k] = x) := ⟨_, Hid_of rfl⟩
      rw [HX.out] at c0 c1
      obtain ⟨W2, HW2⟩ : ∃ W2, Hid (wr.alloc (.cells #[.int .i64 x.i, .int .i64 x.t] 30) = W2) := ⟨_, Hid_of rfl⟩
      have HB2 : Hid (Below w.heap.size w W2) := by rw [← HW2.out]; exact bel_up HB.out (bel1 wr _) (Nat.le_refl _)
      have HX2 : Hid (∀ w', Below W2.heap.size W2 w' → w'.cell? ⟨wr.heap.size, 0, none⟩ = some (.int .i64 x.i) ∧ w'.cell? ⟨wr.heap.size, 1, none⟩ = some (.int .i64 x.t)) := fun w' hw' => by
        have h2 : W2.heap[wr.heap.size]? = some (.cells #[.int .i64 x.i, .int .i64 x.t] 30 (0, 0)) := by rw [← HW2.out]; exact heap_alloc_last wr _
        exact (row2 (bel_row h2 hw')).1
      have HL2 : Hid (∀ w', Below W2.heap.size W2 w' → AtL bl w' (some ⟨b, off, none⟩) l) := fun w' hw' => hat.keep (bel_up HB2.out hw' (Nat.le_refl _))
      clear hat hat' hb
      rcases Nat.eq_zero_or_pos k with h0 | h0
      · subst h0
        have HE : Hid (M.bi l 1 = 0) := rfl
        rw [M.bi_zero]
        have c0' : wr.cell? ⟨b, off, none⟩ = some (.int .i64 x.i) := by simpa using c0
        have c1' : wr.cell? ⟨b, off + 1, none⟩ = some (.int .i64 x.t) := by simpa using c1
        have HS := HX2
        clear HX2 HL2 c0 c1 HX
        go_upto_region 5 with fail
        rw [HW2.out]
        clear HW2
        refine wp_region_held_drew (S := fun wq => Below (W2).heap.size (W2) wq) (by kernel_rfl) (Below.drew (Below.refl _ _)) (fun hHeld => ?_)
        refine wpAnyH_take (i := 0) (oi := ?p0z) (v := ?v0z) ?o0z (by kernel_rfl) (by kernel_rfl) (by kernel_rfl) ?q0z ?y0z hHeld ?r0z
        case o0z => simp only [List.getElem?_toArray, List.getElem?_cons_zero]; rfl
        case q0z => exact fun _ _ _ h => h
        case y0z => (refine Or.inl ⟨rfl, ?_⟩; intro wq hq; obtain ⟨a0, a1⟩ := HS.out wq hq; go_simp; try with_reducible rfl)
        simp only [Act.put, List.setIfInBounds_toArray, List.set_cons_zero, List.set_cons_succ]
        refine wpAnyH_take (i := 1) (oi := ?p1z) (v := ?v1z) ?o1z (by kernel_rfl) (by kernel_rfl) (by kernel_rfl) ?q1z ?y1z hHeld ?r1z
        case o1z => simp only [List.getElem?_toArray, List.getElem?_cons_succ, List.getElem?_cons_zero]; rfl
        case q1z => exact fun _ _ _ h => h
        case y1z => (refine Or.inl ⟨rfl, ?_⟩; intro wq hq; obtain ⟨a0, a1⟩ := HS.out wq hq; go_simp; try with_reducible rfl)
        simp only [Act.put, List.setIfInBounds_toArray, List.set_cons_zero, List.set_cons_succ]
        refine wpAnyH_take (i := 2) (oi := ?p2z) (v := ?v2z) ?o2z (by kernel_rfl) (by kernel_rfl) (by kernel_rfl) ?q2z ?y2z hHeld ?r2z
        case o2z => simp only [List.getElem?_toArray, List.getElem?_cons_succ, List.getElem?_cons_zero]; rfl
        case q2z => exact fun _ _ _ h => h
        case y2z => (refine Or.inl ⟨rfl, ?_⟩; intro wq hq; obtain ⟨a0, a1⟩ := HS.out wq hq; go_simp; try with_reducible rfl)
        simp only [Act.put, List.setIfInBounds_toArray, List.set_cons_zero, List.set_cons_succ]
        refine wpAnyH_take (i := 3) (oi := ?p3z) (v := undef) ?o3z (by kernel_rfl) (by kernel_rfl) (by kernel_rfl) ?q3z ?y3z hHeld ?r3z
        case o3z => simp only [List.getElem?_toArray, List.getElem?_cons_succ, List.getElem?_cons_zero]; rfl
        case q3z => exact fun _ _ _ h => h
        case y3z => exact Or.inr ⟨rfl, rfl⟩
        simp only [Act.put, List.setIfInBounds_toArray, List.set_cons_zero, List.set_cons_succ]
        refine wpAnyH_take (i := 4) (oi := ?p4z) (v := undef) ?o4z (by kernel_rfl) (by kernel_rfl) (by kernel_rfl) ?q4z ?y4z hHeld ?r4z
        case o4z => simp only [List.getElem?_toArray, List.getElem?_cons_succ, List.getElem?_cons_zero]; rfl
        case q4z => exact fun _ _ _ h => h
        case y4z => exact Or.inr ⟨rfl, rfl⟩
        simp only [Act.put, List.setIfInBounds_toArray, List.set_cons_zero, List.set_cons_succ]
        refine wpAnyH_take (i := 5) (oi := ?p5z) (v := undef) ?o5z (by kernel_rfl) (by kernel_rfl) (by kernel_rfl) ?q5z ?y5z hHeld ?r5z
        case o5z => simp only [List.getElem?_toArray, List.getElem?_cons_succ, List.getElem?_cons_zero]; rfl
        case q5z => exact fun _ _ _ h => h
        case y5z => exact Or.inr ⟨rfl, rfl⟩
        simp only [Act.put, List.setIfInBounds_toArray, List.set_cons_zero, List.set_cons_succ]
        refine wpAnyH_take (i := 6) (oi := ?p6z) (v := undef) ?o6z (by kernel_rfl) (by kernel_rfl) (by kernel_rfl) ?q6z ?y6z hHeld ?r6z
        case o6z => simp only [List.getElem?_toArray, List.getElem?_cons_succ, List.getElem?_cons_zero]; rfl
        case q6z => exact fun _ _ _ h => h
        case y6z => exact Or.inr ⟨rfl, rfl⟩
        simp only [Act.put, List.setIfInBounds_toArray, List.set_cons_zero, List.set_cons_succ]
        refine wpAnyH_take (i := 7) (oi := ?p7z) (v := undef) ?o7z (by kernel_rfl) (by kernel_rfl) (by kernel_rfl) ?q7z ?y7z hHeld ?r7z
        case o7z => simp only [List.getElem?_toArray, List.getElem?_cons_succ, List.getElem?_cons_zero]; rfl
        case q7z => exact fun _ _ _ h => h
        case y7z => exact Or.inr ⟨rfl, rfl⟩
        simp only [Act.put, List.setIfInBounds_toArray, List.set_cons_zero, List.set_cons_succ]
        refine wpAnyH_take (i := 8) (oi := ?p8z) (v := undef) ?o8z (by kernel_rfl) (by kernel_rfl) (by kernel_rfl) ?q8z ?y8z hHeld ?r8z
        case o8z => simp only [List.getElem?_toArray, List.getElem?_cons_succ, List.getElem?_cons_zero]; rfl
        case q8z => exact fun _ _ _ h => h
        case y8z => exact Or.inr ⟨rfl, rfl⟩
        simp only [Act.put, List.setIfInBounds_toArray, List.set_cons_zero, List.set_cons_succ]
        refine wpAnyH_take (i := 9) (oi := ?p9z) (v := undef) ?o9z (by kernel_rfl) (by kernel_rfl) (by kernel_rfl) ?q9z ?y9z hHeld ?r9z
        case o9z => simp only [List.getElem?_toArray, List.getElem?_cons_succ, List.getElem?_cons_zero]; rfl
        case q9z => exact fun _ _ _ h => h
        case y9z => exact Or.inr ⟨rfl, rfl⟩
        simp only [Act.put, List.setIfInBounds_toArray, List.set_cons_zero, List.set_cons_succ]
        refine wpAnyH_take (i := 10) (oi := ?p10z) (v := ?v10z) ?o10z (by kernel_rfl) (by kernel_rfl) (by kernel_rfl) ?q10z ?y10z hHeld ?r10z
        case o10z => simp only [List.getElem?_toArray, List.getElem?_cons_succ, List.getElem?_cons_zero]; rfl
        case q10z => exact fun _ _ _ h => h
        case y10z => (refine Or.inl ⟨rfl, ?_⟩; intro wq hq; obtain ⟨a0, a1⟩ := HS.out wq hq; go_simp; try with_reducible rfl)
        simp only [Act.put, List.setIfInBounds_toArray, List.set_cons_zero, List.set_cons_succ]
        refine wpAnyH_done (by kernel_rfl) ?_ _
        go_wp2
        go_roundw
        case rel => exact ⟨1, by omega, by go_num, by rw [HE.out]; rfl, bel_up HB2.out hHeld (Nat.le_refl _)⟩
        case measure => simp [intOf]; omega
      · obtain ⟨p, y, r, hpn, HBI, HR, HS, HN1, HN2⟩ : ∃ (p : Nat) (y : E) (r : Int), p < l.length ∧ Hid (M.bi l k = (p : Int)) ∧ Hid (M.cmpE x y = r) ∧ Hid (∀ w', Below W2.heap.size W2 w' → (w'.cell? ⟨wr.heap.size, 0, none⟩ = some (.int .i64 x.i) ∧ w'.cell? ⟨wr.heap.size, 1, none⟩ = some (.int .i64 x.t)) ∧ (w'.cell? ⟨b, off + p * 2, none⟩ = some (.int .i64 y.i) ∧ w'.cell? ⟨b, off + p * 2 + 1, none⟩ = some (.int .i64 y.t))) ∧ Hid (0 < r → M.bi l (k + 1) = (k : Int)) ∧ Hid (¬ 0 < r → M.bi l (k + 1) = (p : Int)) := by
          have hp := M.bst_lt l k h0
          have hst := M.bst_step l k h0 hlt
          have hb1 := M.bi_pos l (show 0 < k + 1 by omega)
          rw [HX.out] at hst
          refine ⟨M.bst l k, l[M.bst l k]'(by omega), _, by omega, M.bi_pos l h0, Hid_of rfl, Hid_of fun w' hw' => ⟨HX2.out w' hw', ?_⟩, Hid_of fun hr => ?_, Hid_of fun hr => ?_⟩
          · obtain ⟨b', off', e, y0, y1⟩ := (HL2.out w' hw').getB (M.bst l k) (by omega)
            cases e
            exact ⟨y0, y1⟩
          · rw [hb1, hst, if_pos hr]
          · rw [hb1, hst, if_neg hr]
        have hpi : (p : Int) < (l.length : Int) := by omega
        have hp0 : decide ((p : Int) < 0) = false := decide_eq_false (by omega)
        rw [HBI.out]
        clear HX2 HL2 HBI HX
        by_cases hr : 0 < r
        · have HE := Hid_of (HN1.out hr)
          have dr : decide (0 < r) = true := decide_eq_true hr
          clear HN1 HN2 hr
          go_upto_region 5 with fail
          rw [HW2.out]
          clear HW2
          refine wp_region_held_drew (S := fun wq => Below (W2).heap.size (W2) wq) (by kernel_rfl) (Below.drew (Below.refl _ _)) (fun hHeld => ?_)
          refine wpAnyH_take (i := 0) (oi := ?p0a) (v := ?v0a) ?o0a (by kernel_rfl) (by kernel_rfl) (by kernel_rfl) ?q0a ?y0a hHeld ?r0a
          case o0a => simp only [List.getElem?_toArray, List.getElem?_cons_zero]; rfl
          case q0a => exact fun _ _ _ h => h
          case y0a => (refine Or.inl ⟨rfl, ?_⟩; intro wq hq; obtain ⟨⟨a0, a1⟩, ⟨b0, b1⟩⟩ := HS.out wq hq; go_simp; try with_reducible rfl)
          simp only [Act.put, List.setIfInBounds_toArray, List.set_cons_zero, List.set_cons_succ]
          refine wpAnyH_take (i := 1) (oi := ?p1a) (v := ?v1a) ?o1a (by kernel_rfl) (by kernel_rfl) (by kernel_rfl) ?q1a ?y1a hHeld ?r1a
          case o1a => simp only [List.getElem?_toArray, List.getElem?_cons_succ, List.getElem?_cons_zero]; rfl
          case q1a => exact fun _ _ _ h => h
          case y1a => (refine Or.inl ⟨rfl, ?_⟩; intro wq hq; obtain ⟨⟨a0, a1⟩, ⟨b0, b1⟩⟩ := HS.out wq hq; go_simp; try with_reducible rfl)
          simp only [Act.put, List.setIfInBounds_toArray, List.set_cons_zero, List.set_cons_succ]
          refine wpAnyH_take (i := 2) (oi := ?p2a) (v := ?v2a) ?o2a (by kernel_rfl) (by kernel_rfl) (by kernel_rfl) ?q2a ?y2a hHeld ?r2a
          case o2a => simp only [List.getElem?_toArray, List.getElem?_cons_succ, List.getElem?_cons_zero]; rfl
          case q2a => exact fun _ _ _ h => h
          case y2a => (refine Or.inl ⟨rfl, ?_⟩; intro wq hq; obtain ⟨⟨a0, a1⟩, ⟨b0, b1⟩⟩ := HS.out wq hq; go_simp; try with_reducible rfl)
          simp only [Act.put, List.setIfInBounds_toArray, List.set_cons_zero, List.set_cons_succ]
          refine wpAnyH_take (i := 3) (oi := ?p3a) (v := ?v3a) ?o3a (by kernel_rfl) (by kernel_rfl) (by kernel_rfl) ?q3a ?y3a hHeld ?r3a
          case o3a => simp only [List.getElem?_toArray, List.getElem?_cons_succ, List.getElem?_cons_zero]; rfl
          case q3a => exact fun _ _ _ h => h
          case y3a => (refine Or.inl ⟨rfl, ?_⟩; intro wq hq; obtain ⟨⟨a0, a1⟩, ⟨b0, b1⟩⟩ := HS.out wq hq; go_simp; try with_reducible rfl)
          simp only [Act.put, List.setIfInBounds_toArray, List.set_cons_zero, List.set_cons_succ]
          refine wpAnyH_take (i := 4) (oi := ?p4a) (v := ?v4a) ?o4a (by kernel_rfl) (by kernel_rfl) (by kernel_rfl) ?q4a ?y4a hHeld ?r4a
          case o4a => simp only [List.getElem?_toArray, List.getElem?_cons_succ, List.getElem?_cons_zero]; rfl
          case q4a => exact fun _ _ _ h => h
          case y4a => (refine Or.inl ⟨rfl, ?_⟩; intro wq hq; obtain ⟨⟨a0, a1⟩, ⟨b0, b1⟩⟩ := HS.out wq hq; go_simp; try with_reducible rfl)
          simp only [Act.put, List.setIfInBounds_toArray, List.set_cons_zero, List.set_cons_succ]
          refine wpAnyH_take (i := 5) (oi := ?p5a) (v := ?v5a) ?o5a (by kernel_rfl) (by kernel_rfl) (by kernel_rfl) ?q5a ?y5a hHeld ?r5a
          case o5a => simp only [List.getElem?_toArray, List.getElem?_cons_succ, List.getElem?_cons_zero]; rfl
          case q5a => exact fun _ _ _ h => h
          case y5a => (refine Or.inl ⟨rfl, ?_⟩; intro wq hq; obtain ⟨⟨a0, a1⟩, ⟨b0, b1⟩⟩ := HS.out wq hq; go_simp; try with_reducible rfl)
          simp only [Act.put, List.setIfInBounds_toArray, List.set_cons_zero, List.set_cons_succ]
          refine wpAnyH_take (i := 6) (oi := ?p6a) (v := ?v6a) ?o6a (by kernel_rfl) (by kernel_rfl) (by kernel_rfl) ?q6a ?y6a hHeld ?r6a
          case o6a => simp only [List.getElem?_toArray, List.getElem?_cons_succ, List.getElem?_cons_zero]; rfl
          case q6a => exact fun _ _ _ h => h
          case y6a => (refine Or.inl ⟨rfl, ?_⟩; intro wq hq; obtain ⟨⟨a0, a1⟩, ⟨b0, b1⟩⟩ := HS.out wq hq; go_simp; try with_reducible rfl)
          simp only [Act.put, List.setIfInBounds_toArray, List.set_cons_zero, List.set_cons_succ]
          refine wpAnyH_take (i := 7) (oi := ?p7a) (v := ?v7a) ?o7a (by kernel_rfl) (by kernel_rfl) (by kernel_rfl) ?q7a ?y7a hHeld ?r7a
          case o7a => simp only [List.getElem?_toArray, List.getElem?_cons_succ, List.getElem?_cons_zero]; rfl
          case q7a => exact fun _ _ _ h => h
          case y7a => (refine Or.inl ⟨rfl, ?_⟩; intro wq hq; obtain ⟨⟨a0, a1⟩, ⟨b0, b1⟩⟩ := HS.out wq hq; go_simp; try with_reducible rfl)
          simp only [Act.put, List.setIfInBounds_toArray, List.set_cons_zero, List.set_cons_succ]
          refine wpAnyH_ready (rs := [8]) (by kernel_rfl) (by simp) ?_
          refine AllReadyH.cons (o := ?p8a) ?o8a ?s8a AllReadyH.nil
          case o8a => simp only [List.getElem?_toArray, List.getElem?_cons_succ, List.getElem?_cons_zero]; rfl
          intro K hK
          go_simp
          have cc := cmp_any x y
          rw [HR.out] at cc
          refine (cc _).mono ?_
          clear cc
          rintro e w3 ⟨rfl, hb3⟩
          have B3 : Below W2.heap.size W2 w3 := hHeld.trans (hb3.mono hHeld.size)
          clear hb3
          refine hK.out _ _ B3 (fun hHeld => ?_)
          clear hK K
          refine wpAnyH_take (i := 9) (oi := ?p9a) (v := ?v9a) ?o9a (by kernel_rfl) (by kernel_rfl) (by kernel_rfl) ?q9a ?y9a hHeld ?r9a
          case o9a => simp only [List.getElem?_toArray, List.getElem?_cons_succ, List.getElem?_cons_zero]; rfl
          case q9a => exact fun _ _ _ h => h
          case y9a => (refine Or.inl ⟨rfl, ?_⟩; intro wq hq; obtain ⟨⟨a0, a1⟩, ⟨b0, b1⟩⟩ := HS.out wq hq; go_simp; try with_reducible rfl)
          simp only [Act.put, List.setIfInBounds_toArray, List.set_cons_zero, List.set_cons_succ]
          refine wpAnyH_take (i := 10) (oi := ?p10a) (v := ?v10a) ?o10a (by kernel_rfl) (by kernel_rfl) (by kernel_rfl) ?q10a ?y10a hHeld ?r10a
          case o10a => simp only [List.getElem?_toArray, List.getElem?_cons_succ, List.getElem?_cons_zero]; rfl
          case q10a => exact fun _ _ _ h => h
          case y10a => (refine Or.inl ⟨rfl, ?_⟩; intro wq hq; obtain ⟨⟨a0, a1⟩, ⟨b0, b1⟩⟩ := HS.out wq hq; go_simp; try with_reducible rfl)
          simp only [Act.put, List.setIfInBounds_toArray, List.set_cons_zero, List.set_cons_succ]
          refine wpAnyH_done (by kernel_rfl) ?_ _
          go_wp2
          go_roundw
          case rel => exact ⟨k + 1, by omega, by go_num, by rw [HE.out], bel_up HB2.out hHeld (Nat.le_refl _)⟩
          case measure => simp [intOf]; omega
        · have HE := Hid_of (HN2.out hr)
          have dr : decide (0 < r) = false := decide_eq_false hr
          clear HN1 HN2 hr
          go_upto_region 5 with fail
          rw [HW2.out]
          clear HW2
          refine wp_region_held_drew (S := fun wq => Below (W2).heap.size (W2) wq) (by kernel_rfl) (Below.drew (Below.refl _ _)) (fun hHeld => ?_)
          refine wpAnyH_take (i := 0) (oi := ?p0b) (v := ?v0b) ?o0b (by kernel_rfl) (by kernel_rfl) (by kernel_rfl) ?q0b ?y0b hHeld ?r0b
          case o0b => simp only [List.getElem?_toArray, List.getElem?_cons_zero]; rfl
          case q0b => exact fun _ _ _ h => h
          case y0b => (refine Or.inl ⟨rfl, ?_⟩; intro wq hq; obtain ⟨⟨a0, a1⟩, ⟨b0, b1⟩⟩ := HS.out wq hq; go_simp; try with_reducible rfl)
          simp only [Act.put, List.setIfInBounds_toArray, List.set_cons_zero, List.set_cons_succ]
          refine wpAnyH_take (i := 1) (oi := ?p1b) (v := ?v1b) ?o1b (by kernel_rfl) (by kernel_rfl) (by kernel_rfl) ?q1b ?y1b hHeld ?r1b
          case o1b => simp only [List.getElem?_toArray, List.getElem?_cons_succ, List.getElem?_cons_zero]; rfl
          case q1b => exact fun _ _ _ h => h
          case y1b => (refine Or.inl ⟨rfl, ?_⟩; intro wq hq; obtain ⟨⟨a0, a1⟩, ⟨b0, b1⟩⟩ := HS.out wq hq; go_simp; try with_reducible rfl)
          simp only [Act.put, List.setIfInBounds_toArray, List.set_cons_zero, List.set_cons_succ]
          refine wpAnyH_take (i := 2) (oi := ?p2b) (v := ?v2b) ?o2b (by kernel_rfl) (by kernel_rfl) (by kernel_rfl) ?q2b ?y2b hHeld ?r2b
          case o2b => simp only [List.getElem?_toArray, List.getElem?_cons_succ, List.getElem?_cons_zero]; rfl
          case q2b => exact fun _ _ _ h => h
          case y2b => (refine Or.inl ⟨rfl, ?_⟩; intro wq hq; obtain ⟨⟨a0, a1⟩, ⟨b0, b1⟩⟩ := HS.out wq hq; go_simp; try with_reducible rfl)
          simp only [Act.put, List.setIfInBounds_toArray, List.set_cons_zero, List.set_cons_succ]
          refine wpAnyH_take (i := 3) (oi := ?p3b) (v := ?v3b) ?o3b (by kernel_rfl) (by kernel_rfl) (by kernel_rfl) ?q3b ?y3b hHeld ?r3b
          case o3b => simp only [List.getElem?_toArray, List.getElem?_cons_succ, List.getElem?_cons_zero]; rfl
          case q3b => exact fun _ _ _ h => h
          case y3b => (refine Or.inl ⟨rfl, ?_⟩; intro wq hq; obtain ⟨⟨a0, a1⟩, ⟨b0, b1⟩⟩ := HS.out wq hq; go_simp; try with_reducible rfl)
          simp only [Act.put, List.setIfInBounds_toArray, List.set_cons_zero, List.set_cons_succ]
          refine wpAnyH_take (i := 4) (oi := ?p4b) (v := ?v4b) ?o4b (by kernel_rfl) (by kernel_rfl) (by kernel_rfl) ?q4b ?y4b hHeld ?r4b
          case o4b => simp only [List.getElem?_toArray, List.getElem?_cons_succ, List.getElem?_cons_zero]; rfl
          case q4b => exact fun _ _ _ h => h
          case y4b => (refine Or.inl ⟨rfl, ?_⟩; intro wq hq; obtain ⟨⟨a0, a1⟩, ⟨b0, b1⟩⟩ := HS.out wq hq; go_simp; try with_reducible rfl)
          simp only [Act.put, List.setIfInBounds_toArray, List.set_cons_zero, List.set_cons_succ]
          refine wpAnyH_take (i := 5) (oi := ?p5b) (v := ?v5b) ?o5b (by kernel_rfl) (by kernel_rfl) (by kernel_rfl) ?q5b ?y5b hHeld ?r5b
          case o5b => simp only [List.getElem?_toArray, List.getElem?_cons_succ, List.getElem?_cons_zero]; rfl
          case q5b => exact fun _ _ _ h => h
          case y5b => (refine Or.inl ⟨rfl, ?_⟩; intro wq hq; obtain ⟨⟨a0, a1⟩, ⟨b0, b1⟩⟩ := HS.out wq hq; go_simp; try with_reducible rfl)
          simp only [Act.put, List.setIfInBounds_toArray, List.set_cons_zero, List.set_cons_succ]
          refine wpAnyH_take (i := 6) (oi := ?p6b) (v := ?v6b) ?o6b (by kernel_rfl) (by kernel_rfl) (by kernel_rfl) ?q6b ?y6b hHeld ?r6b
          case o6b => simp only [List.getElem?_toArray, List.getElem?_cons_succ, List.getElem?_cons_zero]; rfl
          case q6b => exact fun _ _ _ h => h
          case y6b => (refine Or.inl ⟨rfl, ?_⟩; intro wq hq; obtain ⟨⟨a0, a1⟩, ⟨b0, b1⟩⟩ := HS.out wq hq; go_simp; try with_reducible rfl)
          simp only [Act.put, List.setIfInBounds_toArray, List.set_cons_zero, List.set_cons_succ]
          refine wpAnyH_take (i := 7) (oi := ?p7b) (v := ?v7b) ?o7b (by kernel_rfl) (by kernel_rfl) (by kernel_rfl) ?q7b ?y7b hHeld ?r7b
          case o7b => simp only [List.getElem?_toArray, List.getElem?_cons_succ, List.getElem?_cons_zero]; rfl
          case q7b => exact fun _ _ _ h => h
          case y7b => (refine Or.inl ⟨rfl, ?_⟩; intro wq hq; obtain ⟨⟨a0, a1⟩, ⟨b0, b1⟩⟩ := HS.out wq hq; go_simp; try with_reducible rfl)
          simp only [Act.put, List.setIfInBounds_toArray, List.set_cons_zero, List.set_cons_succ]
          refine wpAnyH_ready (rs := [8]) (by kernel_rfl) (by simp) ?_
          refine AllReadyH.cons (o := ?p8b) ?o8b ?s8b AllReadyH.nil
          case o8b => simp only [List.getElem?_toArray, List.getElem?_cons_succ, List.getElem?_cons_zero]; rfl
          intro K hK
          go_simp
          have cc := cmp_any x y
          rw [HR.out] at cc
          refine (cc _).mono ?_
          clear cc
          rintro e w3 ⟨rfl, hb3⟩
          have B3 : Below W2.heap.size W2 w3 := hHeld.trans (hb3.mono hHeld.size)
          clear hb3
          refine hK.out _ _ B3 (fun hHeld => ?_)
          clear hK K
          refine wpAnyH_take (i := 9) (oi := ?p9b) (v := ?v9b) ?o9b (by kernel_rfl) (by kernel_rfl) (by kernel_rfl) ?q9b ?y9b hHeld ?r9b
          case o9b => simp only [List.getElem?_toArray, List.getElem?_cons_succ, List.getElem?_cons_zero]; rfl
          case q9b => exact fun _ _ _ h => h
          case y9b => (refine Or.inl ⟨rfl, ?_⟩; intro wq hq; obtain ⟨⟨a0, a1⟩, ⟨b0, b1⟩⟩ := HS.out wq hq; go_simp; try with_reducible rfl)
          simp only [Act.put, List.setIfInBounds_toArray, List.set_cons_zero, List.set_cons_succ]
          refine wpAnyH_take (i := 10) (oi := ?p10b) (v := ?v10b) ?o10b (by kernel_rfl) (by kernel_rfl) (by kernel_rfl) ?q10b ?y10b hHeld ?r10b
          case o10b => simp only [List.getElem?_toArray, List.getElem?_cons_succ, List.getElem?_cons_zero]; rfl
          case q10b => exact fun _ _ _ h => h
          case y10b => (refine Or.inl ⟨rfl, ?_⟩; intro wq hq; obtain ⟨⟨a0, a1⟩, ⟨b0, b1⟩⟩ := HS.out wq hq; go_simp; try with_reducible rfl)
          simp only [Act.put, List.setIfInBounds_toArray, List.set_cons_zero, List.set_cons_succ]
          refine wpAnyH_done (by kernel_rfl) ?_ _
          go_wp2
          go_roundw
          case rel => exact ⟨k + 1, by omega, by go_num, by rw [HE.out], bel_up HB2.out hHeld (Nat.le_refl _)⟩
          case measure => simp [intOf]; omega
    · obtain rfl : k = l.length := by omega
      clear hat
      go_wp2
      go_ret
      exact ⟨rfl, HB.out⟩

theorem f45_res : Try.f45.results = #[.cell 2 30] := rfl
set_option maxHeartbeats 400000 in
theorem max_any (a : Option Addr) (cap : Nat) (l : List E) (w : World) (hat : AtL bl w a l) (hl : l.length ≤ 1000000) :
    Calls Try.prog 45 #[.slice a l.length cap] w fun e w' => e = .returned (.agg #[.int .i64 (M.bx l l.length).i, .int .i64 (M.bx l l.length).t]) ∧ Below w.heap.size w w' := by
  obtain ⟨z, HZ⟩ : ∃ z, Hid (M.bx l l.length = z) := ⟨_, Hid_of rfl⟩
  rw [HZ.out]
  have hr1 := heap_alloc_last w (.cells #[.int .i64 0, .int .i64 0] 30)
  obtain ⟨W1, HW1⟩ : ∃ W1, Hid (w.alloc (.cells #[.int .i64 0, .int .i64 0] 30) = W1) := ⟨_, Hid_of rfl⟩
  have HB1 : Hid (Below w.heap.size w W1) := by rw [← HW1.out]; exact bel1 w _
  rw [HW1.out] at hr1
  have HR1 := Hid_of hr1
  clear hr1
  go_enter Try.func45, Try.ntmps45
  go_upto_region 1 with fail
  rw [HW1.out]
  clear HW1
  go_wp2_with fail
  refine (greatest_any a cap l W1 (hat.keep HB1.out) hl).mono ?_
  rintro e w2 ⟨rfl, hb2⟩
  have HB2 := Hid_of (bel_up HB1.out hb2 (Nat.le_refl _))
  have hr2 := bel_row HR1.out hb2
  have HR2 := Hid_of hr2
  obtain ⟨⟨x0, x1⟩, xf⟩ := row2 hr2
  have f0 := xf 0
  have f1 := xf 1
  have hat2 := hat.keep HB2.out
  clear xf hr2 hat HB1 HR1 hb2
  rcases Nat.eq_zero_or_pos l.length with h0 | h0
  · have e1 : M.bi l l.length = -1 := by rw [h0]; rfl
    obtain rfl : z = ⟨0, 0⟩ := by rw [← HZ.out, h0]; rfl
    rw [e1]
    clear e1 hat2 h0 HZ
    go_wp2
    refine bodyPost_ret (v := .agg #[.int .i64 0, .int .i64 0]) ?_ rfl ⟨rfl, put2_bel HB2.out (Nat.le_refl _) _ _⟩
    exact results_cell_row f45_res _ _ w.heap.size 30 _ (0, 0) _ rfl (put2_row HR2.out _ _) Try.underlying30 rfl Try.size30
  · have hp := M.bst_lt l l.length h0
    have e1 := M.bi_pos l h0
    have e2 := M.bx_pos l h0 (Nat.le_refl _)
    rw [HZ.out] at e2
    rw [e1]
    obtain ⟨b, off, rfl, c0, c1⟩ := hat2.getB (M.bst l l.length) hp
    rw [← e2] at c0 c1
    clear e1 e2 hat2 h0 HZ
    generalize M.bst l l.length = p at *
    have hpi : (p : Int) < (l.length : Int) := by omega
    have hp0 : decide ((p : Int) < 0) = false := decide_eq_false (by omega)
    go_wp2
    refine bodyPost_ret (v := .agg #[.int .i64 z.i, .int .i64 z.t]) ?_ rfl ⟨rfl, put2_bel HB2.out (Nat.le_refl _) _ _⟩
    exact results_cell_row f45_res _ _ w.heap.size 30 _ (0, 0) _ rfl (put2_row HR2.out _ _) Try.underlying30 rfl Try.size30

end Go.Proofs.Ytfjlanhekheecaa.Np
