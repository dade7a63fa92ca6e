/-
  How two ballots are held against each other.
-/
import Derived.Test.YtgodnpngdbelhaaG02
namespace Go.Proofs.Ytgodnpngdbelhaa
open Go.RowKit
set_option linter.unusedVariables false
open M (E)

theorem isnan_any (a : Int) (w : World) : Calls Try.prog 98 #[.int .i64 a] w fun e w' => e = .returned (.bool false) ∧ w' = w := by
  go_enter Try.func98, Try.ntmps98
  go_wp2
  go_ret
  exact ⟨rfl, rfl⟩
set_option maxHeartbeats 400000 in
theorem compare_any (a b : Int) (w : World) : Calls Try.prog 90 #[.int .i64 a, .int .i64 b] w fun e w' => e = .returned (.int .i64 (M.cmp a b)) ∧ w' = w := by
  rcases M.cmp_three a b with ⟨h, e⟩ | ⟨h, e⟩ | ⟨h, e⟩
  · rw [e]
    clear e
    go_enter Try.func90, Try.ntmps90
    go_wp2_with fail
    refine (isnan_any _ _).mono ?_
    rintro e w1 ⟨rfl, rfl⟩
    go_wp2_with fail
    refine (isnan_any _ _).mono ?_
    rintro e w2 ⟨rfl, rfl⟩
    go_wp2
    go_ret
    exact ⟨rfl, rfl⟩
  · rw [e]
    clear e
    subst h
    go_enter Try.func90, Try.ntmps90
    go_wp2_with fail
    refine (isnan_any _ _).mono ?_
    rintro e w1 ⟨rfl, rfl⟩
    go_wp2_with fail
    refine (isnan_any _ _).mono ?_
    rintro e w2 ⟨rfl, rfl⟩
    go_wp2
    go_ret
    exact ⟨rfl, rfl⟩
  · rw [e]
    clear e
    have h' : ¬ a < b := by omega
    go_enter Try.func90, Try.ntmps90
    go_wp2_with fail
    refine (isnan_any _ _).mono ?_
    rintro e w1 ⟨rfl, rfl⟩
    go_wp2_with fail
    refine (isnan_any _ _).mono ?_
    rintro e w2 ⟨rfl, rfl⟩
    go_wp2
    go_ret
    exact ⟨rfl, rfl⟩
def orI (x y : Int) : Int := if x = 0 then y else x
set_option maxHeartbeats 400000 in
theorem or_any (g : Nat) (x y : Int) (w : World) (h : w.heap[g]? = some (.cells #[.int .i64 x, .int .i64 y] 3 (0, 0))) :
    Calls Try.prog 89 #[.slice (some ⟨g, 0, none⟩) 2 2] w fun e w' => e = .returned (.int .i64 (orI x y)) ∧ w' = w := by
  obtain ⟨⟨c0, c1⟩, _⟩ := row2 h
  clear h
  have H1 : Hid (x ≠ 0 → orI x y = x) := fun h => by unfold orI; rw [if_neg h]
  have H2 : Hid (x = 0 → orI x y = y) := fun h => by unfold orI; rw [if_pos h]
  generalize orI x y = R at *
  go_enter Try.func89, Try.ntmps89
  go_wp2
  go_loopw [8] (fun i wr => ∃ k : Nat, k ≤ 2 ∧ (0 < k → x = 0) ∧ (1 < k → y = 0) ∧ i = .int .i64 k ∧ wr = w) (fun i _ => 2 - (intOf i).toNat)
  case atStart => exact ⟨0, by omega, by omega, by omega, rfl, rfl⟩
  case round =>
    obtain ⟨k, hk, hx, hy, rfl, rfl⟩ := hrel
    match k, hk with
    | 0, _ =>
      clear hx hy
      by_cases h0 : x = 0
      · have hb : (x == 0) = true := by simpa using h0
        have HX := Hid_of h0
        clear h0
        go_wp2
        go_roundw
        case rel => exact ⟨1, by omega, fun _ => HX.out, by omega, rfl, by trivial⟩
        case measure => simp [intOf]
      · obtain rfl := H1.out h0
        go_wp2
        go_ret
        exact ⟨rfl, rfl⟩
    | 1, _ =>
      have HX := Hid_of (hx (by omega))
      obtain rfl := H2.out HX.out
      clear hx hy H1 H2
      by_cases h0 : R = 0
      · have HY := Hid_of h0
        have hb : (R == 0) = true := by simpa using h0
        clear h0
        go_wp2
        go_roundw
        case rel => exact ⟨2, by omega, fun _ => HX.out, fun _ => HY.out, rfl, by trivial⟩
        case measure => simp [intOf]
      · go_wp2
        go_ret
        exact ⟨rfl, rfl⟩
    | 2, _ =>
      have HX := hx (by omega)
      have HY := hy (by omega)
      obtain rfl := H2.out HX
      subst HY
      clear hx hy H1 H2
      go_wp2
      go_ret
      exact ⟨rfl, rfl⟩
set_option maxRecDepth 100000 in
set_option maxHeartbeats 2000000 in
theorem cmp_any (x y : E) (w : World) :
    Calls Try.prog 79 #[.agg #[.int .i64 x.i, .int .i64 x.t], .agg #[.int .i64 y.i, .int .i64 y.t]] w fun e w' => e = .returned (.int .i64 (M.cmpE x y)) ∧ Below w.heap.size w w' := by
  have HC : Hid (M.cmpE x y = orI (M.cmp x.i y.i) (M.cmp x.t y.t)) := rfl
  rw [HC.out]
  clear HC
  obtain ⟨xi, xt⟩ := x
  obtain ⟨yi, yt⟩ := y
  simp only
  obtain ⟨W1, HW1⟩ : ∃ W1, Hid ((w.alloc (.cells #[.int .i64 xi, .int .i64 xt] 60)).alloc (.cells #[.int .i64 yi, .int .i64 yt] 60) = W1) := ⟨_, rfl⟩
  have HB1 : Hid (Below w.heap.size w W1) := by rw [← HW1.out]; exact (bel1 w _).alloc (by simp) _
  have hs1 : W1.heap.size = w.heap.size + 2 := by rw [← HW1.out]; simp
  have HS : Hid (∀ w', Below W1.heap.size W1 w' → (w'.cell? ⟨w.heap.size, 0, none⟩ = some (.int .i64 xi) ∧ w'.cell? ⟨w.heap.size, 1, none⟩ = some (.int .i64 xt)) ∧ (w'.cell? ⟨w.heap.size + 1, 0, none⟩ = some (.int .i64 yi) ∧ w'.cell? ⟨w.heap.size + 1, 1, none⟩ = some (.int .i64 yt))) := by
    intro w' hb
    have h1 : W1.heap[w.heap.size]? = some (.cells #[.int .i64 xi, .int .i64 xt] 60 (0, 0)) := by rw [← HW1.out]; exact heap_alloc2_old w _ _
    have h2 : W1.heap[w.heap.size + 1]? = some (.cells #[.int .i64 yi, .int .i64 yt] 60 (0, 0)) := by rw [← HW1.out]; exact heap_alloc2_new w _ _
    exact ⟨(row2 ((hb.block _ (by omega)).trans h1)).1, (row2 ((hb.block _ (by omega)).trans h2)).1⟩
  go_enter Try.func79, Try.ntmps79
  go_wp2_with fail
  rw [HW1.out]
  clear HW1
  have HL : Hid (∀ a b : Value, (W1.alloc (.cells #[a, b] 3)).drew.heap[w.heap.size + 2]? = some (.cells #[a, b] 3 (0, 0))) := fun a b => by rw [← hs1]; exact heap_alloc_last W1 _
  refine wp_region_held_drew (S := fun wq => Below (W1).heap.size (W1) wq) (by kernel_rfl) (Below.drew (Below.refl _ _)) (fun hHeld => ?_)
  refine wpAnyH_take (i := 0) (oi := ?p0a) (v := ?v0a) ?o0a (by kernel_rfl) (by kernel_rfl) (by kernel_rfl) ?q0a ?y0a hHeld ?r0a
  case o0a => simp only [List.getElem?_toArray, List.getElem?_cons_zero]; rfl
  case q0a => exact fun _ _ _ h => h
  case y0a => (refine Or.inl ⟨rfl, ?_⟩; intro wq hq; obtain ⟨⟨a0, a1⟩, ⟨b0, b1⟩⟩ := HS.out wq hq; go_simp; try with_reducible rfl)
  simp only [Act.put, List.setIfInBounds_toArray, List.set_cons_zero, List.set_cons_succ]
  refine wpAnyH_take (i := 1) (oi := ?p1a) (v := ?v1a) ?o1a (by kernel_rfl) (by kernel_rfl) (by kernel_rfl) ?q1a ?y1a hHeld ?r1a
  case o1a => simp only [List.getElem?_toArray, List.getElem?_cons_succ, List.getElem?_cons_zero]; rfl
  case q1a => exact fun _ _ _ h => h
  case y1a => (refine Or.inl ⟨rfl, ?_⟩; intro wq hq; obtain ⟨⟨a0, a1⟩, ⟨b0, b1⟩⟩ := HS.out wq hq; go_simp; try with_reducible rfl)
  simp only [Act.put, List.setIfInBounds_toArray, List.set_cons_zero, List.set_cons_succ]
  refine wpAnyH_take (i := 2) (oi := ?p2a) (v := ?v2a) ?o2a (by kernel_rfl) (by kernel_rfl) (by kernel_rfl) ?q2a ?y2a hHeld ?r2a
  case o2a => simp only [List.getElem?_toArray, List.getElem?_cons_succ, List.getElem?_cons_zero]; rfl
  case q2a => exact fun _ _ _ h => h
  case y2a => (refine Or.inl ⟨rfl, ?_⟩; intro wq hq; obtain ⟨⟨a0, a1⟩, ⟨b0, b1⟩⟩ := HS.out wq hq; go_simp; try with_reducible rfl)
  simp only [Act.put, List.setIfInBounds_toArray, List.set_cons_zero, List.set_cons_succ]
  refine wpAnyH_take (i := 3) (oi := ?p3a) (v := ?v3a) ?o3a (by kernel_rfl) (by kernel_rfl) (by kernel_rfl) ?q3a ?y3a hHeld ?r3a
  case o3a => simp only [List.getElem?_toArray, List.getElem?_cons_succ, List.getElem?_cons_zero]; rfl
  case q3a => exact fun _ _ _ h => h
  case y3a => (refine Or.inl ⟨rfl, ?_⟩; intro wq hq; obtain ⟨⟨a0, a1⟩, ⟨b0, b1⟩⟩ := HS.out wq hq; go_simp; try with_reducible rfl)
  simp only [Act.put, List.setIfInBounds_toArray, List.set_cons_zero, List.set_cons_succ]
  refine wpAnyH_take (i := 5) (oi := ?p5a) (v := ?v5a) ?o5a (by kernel_rfl) (by kernel_rfl) (by kernel_rfl) ?q5a ?y5a hHeld ?r5a
  case o5a => simp only [List.getElem?_toArray, List.getElem?_cons_succ, List.getElem?_cons_zero]; rfl
  case q5a => exact fun _ _ _ h => h
  case y5a => (refine Or.inl ⟨rfl, ?_⟩; intro wq hq; obtain ⟨⟨a0, a1⟩, ⟨b0, b1⟩⟩ := HS.out wq hq; go_simp; try with_reducible rfl)
  simp only [Act.put, List.setIfInBounds_toArray, List.set_cons_zero, List.set_cons_succ]
  refine wpAnyH_take (i := 6) (oi := ?p6a) (v := ?v6a) ?o6a (by kernel_rfl) (by kernel_rfl) (by kernel_rfl) ?q6a ?y6a hHeld ?r6a
  case o6a => simp only [List.getElem?_toArray, List.getElem?_cons_succ, List.getElem?_cons_zero]; rfl
  case q6a => exact fun _ _ _ h => h
  case y6a => (refine Or.inl ⟨rfl, ?_⟩; intro wq hq; obtain ⟨⟨a0, a1⟩, ⟨b0, b1⟩⟩ := HS.out wq hq; go_simp; try with_reducible rfl)
  simp only [Act.put, List.setIfInBounds_toArray, List.set_cons_zero, List.set_cons_succ]
  refine wpAnyH_take (i := 7) (oi := ?p7a) (v := ?v7a) ?o7a (by kernel_rfl) (by kernel_rfl) (by kernel_rfl) ?q7a ?y7a hHeld ?r7a
  case o7a => simp only [List.getElem?_toArray, List.getElem?_cons_succ, List.getElem?_cons_zero]; rfl
  case q7a => exact fun _ _ _ h => h
  case y7a => (refine Or.inl ⟨rfl, ?_⟩; intro wq hq; obtain ⟨⟨a0, a1⟩, ⟨b0, b1⟩⟩ := HS.out wq hq; go_simp; try with_reducible rfl)
  simp only [Act.put, List.setIfInBounds_toArray, List.set_cons_zero, List.set_cons_succ]
  refine wpAnyH_take (i := 8) (oi := ?p8a) (v := ?v8a) ?o8a (by kernel_rfl) (by kernel_rfl) (by kernel_rfl) ?q8a ?y8a hHeld ?r8a
  case o8a => simp only [List.getElem?_toArray, List.getElem?_cons_succ, List.getElem?_cons_zero]; rfl
  case q8a => exact fun _ _ _ h => h
  case y8a => (refine Or.inl ⟨rfl, ?_⟩; intro wq hq; obtain ⟨⟨a0, a1⟩, ⟨b0, b1⟩⟩ := HS.out wq hq; go_simp; try with_reducible rfl)
  simp only [Act.put, List.setIfInBounds_toArray, List.set_cons_zero, List.set_cons_succ]
  refine wpAnyH_ready (rs := [4]) (by kernel_rfl) (by simp) ?_
  refine AllReadyH.cons (o := ?p4a) ?o4a ?s4a AllReadyH.nil
  case o4a => simp only [List.getElem?_toArray, List.getElem?_cons_succ, List.getElem?_cons_zero]; rfl
  intro K hK
  go_simp
  refine (compare_any _ _ _).mono ?_
  rintro x w2 ⟨rfl, rfl⟩
  refine hK.out _ _ hHeld (fun hHeld => ?_)
  clear hK K
  refine wpAnyH_ready (rs := [9]) (by kernel_rfl) (by simp) ?_
  refine AllReadyH.cons (o := ?p9a) ?o9a ?s9a AllReadyH.nil
  case o9a => simp only [List.getElem?_toArray, List.getElem?_cons_succ, List.getElem?_cons_zero]; rfl
  intro K hK
  go_simp
  refine (compare_any _ _ _).mono ?_
  rintro x w3 ⟨rfl, rfl⟩
  refine hK.out _ _ hHeld (fun hHeld => ?_)
  clear hK K
  refine wpAnyH_ready (rs := [10]) (by kernel_rfl) (by simp) ?_
  refine AllReadyH.cons (o := ?p10a) ?o10a ?s10a AllReadyH.nil
  case o10a => simp only [List.getElem?_toArray, List.getElem?_cons_succ, List.getElem?_cons_zero]; rfl
  intro K hK
  go_simp
  
  refine hK.out _ _ ((bel1 W1 _).drew) (fun hHeld => ?_)
  clear hK K
  refine wpAnyH_ready (rs := [11]) (by kernel_rfl) (by simp) ?_
  refine AllReadyH.cons (o := ?p11a) ?o11a ?s11a AllReadyH.nil
  case o11a => simp only [List.getElem?_toArray, List.getElem?_cons_succ, List.getElem?_cons_zero]; rfl
  intro K hK
  go_simp
  refine (or_any (w.heap.size + 2) _ _ _ (HL.out _ _)).mono ?_
  rintro x w4 ⟨rfl, rfl⟩
  refine hK.out _ _ hHeld (fun hHeld => ?_)
  clear hK K
  refine wpAnyH_take (i := 12) (oi := ?p12a) (v := ?v12a) ?o12a (by kernel_rfl) (by kernel_rfl) (by kernel_rfl) ?q12a ?y12a hHeld ?r12a
  case o12a => simp only [List.getElem?_toArray, List.getElem?_cons_succ, List.getElem?_cons_zero]; rfl
  case q12a => exact fun _ _ _ h => h
  case y12a => (refine Or.inl ⟨rfl, ?_⟩; intro wq hq; obtain ⟨⟨a0, a1⟩, ⟨b0, b1⟩⟩ := HS.out wq hq; go_simp; try with_reducible rfl)
  simp only [Act.put, List.setIfInBounds_toArray, List.set_cons_zero, List.set_cons_succ]
  refine wpAnyH_done (by kernel_rfl) ?_ _
  go_wp2
  go_ret
  exact ⟨rfl, bel_up HB1.out hHeld (Nat.le_refl _)⟩
end Go.Proofs.Ytgodnpngdbelhaa
namespace Go.Proofs.Ytgodnpngdbelhaa
open Go.RowKit
set_option linter.unusedVariables false
open M (E V)

set_option maxHeartbeats 400000 in
theorem eq60 (a b c d : Int) (w : World) : (binOp .eql 60 (.agg #[.int .i64 a, .int .i64 b]) (.agg #[.int .i64 c, .int .i64 d])).run Try.prog w = .ok (.bool (decide (a = c) && decide (b = d))) w := by
  have u3 := Try.underlying3
  have a3 := Try.isAgg3
  have z3 := Try.sizeOf3
  have hS : Try.prog.underlying 60 = some (.struct (Try.prog.fieldsOf 60)) := by kernel_rfl
  have hp : Try.prog.stoodInHeld 60 = false := by kernel_rfl
  rw [run_eql_struct, show (10000 : Nat) = 9999 + 1 from rfl, run_equalIn_agg w 9999 60 _ _ hS hp]
  simp only [Program.fieldsOf, Try.underlying60]
  by_cases h1 : a = c
  · by_cases h2 : b = d
    · subst h1 h2
      go_simp
    · subst h1
      go_simp
  · go_simp

set_option maxHeartbeats 400000 in
theorem valid_any (x : E) (w : World) : Calls Try.prog 61 #[.agg #[.int .i64 x.i, .int .i64 x.t]] w fun e w' => e = .returned (.bool (M.vld x)) ∧ Below w.heap.size w w' := by
  obtain ⟨i, t⟩ := x
  simp only
  have HB := Hid_of (bel1 w (.cells #[.int .i64 i, .int .i64 t] 60))
  have HV : Hid (M.vld ⟨i, t⟩ = (decide (0 ≤ i) && decide (i ≤ 2147483647) && decide (0 ≤ t) && decide (t ≤ 6))) := rfl
  rw [HV.out]
  clear HV
  by_cases h0 : 0 ≤ i
  · have dh0 : decide (0 ≤ i) = true := decide_eq_true h0
    by_cases h1 : i ≤ 2147483647
    · have dh1 : decide (i ≤ 2147483647) = true := decide_eq_true h1
      by_cases h2 : 0 ≤ t
      · have dh2 : decide (0 ≤ t) = true := decide_eq_true h2
        by_cases h3 : t ≤ 6
        · have dh3 : decide (t ≤ 6) = true := decide_eq_true h3
          have eh0 : decide (0 ≤ i) = true := decide_eq_true (by omega)
          have eh1 : decide (i ≤ 2147483647) = true := decide_eq_true (by omega)
          have eh2 : decide (0 ≤ t) = true := decide_eq_true (by omega)
          have eh3 : decide (t ≤ 6) = true := decide_eq_true (by omega)
          rw [eh0, eh1, eh2, eh3]
          clear eh0 eh1 eh2 eh3 h0 h1 h2 h3
          go_enter Try.func61, Try.ntmps61
          go_wp2
          go_ret
          exact ⟨rfl, HB.out⟩
        · have dh3 : decide (t ≤ 6) = false := decide_eq_false h3
          have eh0 : decide (0 ≤ i) = true := decide_eq_true (by omega)
          have eh1 : decide (i ≤ 2147483647) = true := decide_eq_true (by omega)
          have eh2 : decide (0 ≤ t) = true := decide_eq_true (by omega)
          have eh3 : decide (t ≤ 6) = false := decide_eq_false (by omega)
          rw [eh0, eh1, eh2, eh3]
          clear eh0 eh1 eh2 eh3 h0 h1 h2 h3
          go_enter Try.func61, Try.ntmps61
          go_wp2
          go_ret
          exact ⟨rfl, HB.out⟩
      · have dh2 : decide (0 ≤ t) = false := decide_eq_false h2
        have eh0 : decide (0 ≤ i) = true := decide_eq_true (by omega)
        have eh1 : decide (i ≤ 2147483647) = true := decide_eq_true (by omega)
        have eh2 : decide (0 ≤ t) = false := decide_eq_false (by omega)
        rw [eh0, eh1, eh2]
        clear eh0 eh1 eh2 h0 h1 h2
        go_enter Try.func61, Try.ntmps61
        go_wp2
        go_ret
        exact ⟨rfl, HB.out⟩
    · have dh1 : decide (i ≤ 2147483647) = false := decide_eq_false h1
      have eh0 : decide (0 ≤ i) = true := decide_eq_true (by omega)
      have eh1 : decide (i ≤ 2147483647) = false := decide_eq_false (by omega)
      rw [eh0, eh1]
      clear eh0 eh1 h0 h1
      go_enter Try.func61, Try.ntmps61
      go_wp2
      go_ret
      exact ⟨rfl, HB.out⟩
  · have dh0 : decide (0 ≤ i) = false := decide_eq_false h0
    have eh0 : decide (0 ≤ i) = false := decide_eq_false (by omega)
    rw [eh0]
    clear eh0 h0
    go_enter Try.func61, Try.ntmps61
    go_wp2
    go_ret
    exact ⟨rfl, HB.out⟩
set_option maxHeartbeats 400000 in
theorem quorum_any (n : Int) (w : World) : Calls Try.prog 95 #[.int .i64 n] w fun e w' => e = .returned (.int .i64 (M.quo n)) ∧ w' = w := by
  by_cases h0 : n < 1
  · have HQ : Hid (M.quo n = 0) := Hid_of (by unfold M.quo; rw [if_pos (.inl h0)])
    have d0 : decide (n < 1) = true := decide_eq_true h0
    rw [HQ.out]
    clear HQ h0
    go_enter Try.func95, Try.ntmps95
    go_wp2
    go_ret
    exact ⟨rfl, rfl⟩
  · have d0 : decide (n < 1) = false := decide_eq_false h0
    by_cases h1 : 7 < n
    · have HQ : Hid (M.quo n = 0) := Hid_of (by unfold M.quo; rw [if_pos (.inr h1)])
      have d1 : decide (7 < n) = true := decide_eq_true h1
      rw [HQ.out]
      clear HQ h0 h1
      go_enter Try.func95, Try.ntmps95
      go_wp2
      go_ret
      exact ⟨rfl, rfl⟩
    · have d1 : decide (7 < n) = false := decide_eq_false h1
      have HQ : Hid (M.quo n = n / 2 + 1) := Hid_of (by unfold M.quo; rw [if_neg (by omega)])
      rw [HQ.out]
      clear HQ
      obtain rfl | rfl | rfl | rfl | rfl | rfl | rfl : n = 1 ∨ n = 2 ∨ n = 3 ∨ n = 4 ∨ n = 5 ∨ n = 6 ∨ n = 7 := by omega
      all_goals
        clear h0 h1 d0 d1
        go_enter Try.func95, Try.ntmps95
        go_wp2
        go_ret
        exact ⟨rfl, rfl⟩
set_option maxHeartbeats 400000 in
theorem rquorum_any (n : Int) (w : World) : Calls Try.prog 8 #[.int .i64 n] w fun e w' => e = .returned (.int .i64 (M.quo n)) ∧ w' = w := by
  by_cases h0 : n < 1
  · have HQ : Hid (M.quo n = 0) := Hid_of (by unfold M.quo; rw [if_pos (.inl h0)])
    have d0 : decide (n < 1) = true := decide_eq_true h0
    rw [HQ.out]
    clear HQ h0
    go_enter Try.func8, Try.ntmps8
    go_wp2
    go_ret
    exact ⟨rfl, rfl⟩
  · have d0 : decide (n < 1) = false := decide_eq_false h0
    by_cases h1 : 7 < n
    · have HQ : Hid (M.quo n = 0) := Hid_of (by unfold M.quo; rw [if_pos (.inr h1)])
      have d1 : decide (7 < n) = true := decide_eq_true h1
      rw [HQ.out]
      clear HQ h0 h1
      go_enter Try.func8, Try.ntmps8
      go_wp2
      go_ret
      exact ⟨rfl, rfl⟩
    · have d1 : decide (7 < n) = false := decide_eq_false h1
      have HQ : Hid (M.quo n = n / 2 + 1) := Hid_of (by unfold M.quo; rw [if_neg (by omega)])
      rw [HQ.out]
      clear HQ
      obtain rfl | rfl | rfl | rfl | rfl | rfl | rfl : n = 1 ∨ n = 2 ∨ n = 3 ∨ n = 4 ∨ n = 5 ∨ n = 6 ∨ n = 7 := by omega
      all_goals
        clear h0 h1 d0 d1
        go_enter Try.func8, Try.ntmps8
        go_wp2
        go_ret
        exact ⟨rfl, rfl⟩
theorem f65_res : Try.f65.results = #[.cell 4 60] := rfl
set_option maxHeartbeats 400000 in
theorem next_any (x : E) (n : Int) (w : World) : Calls Try.prog 65 #[.agg #[.int .i64 x.i, .int .i64 x.t], .int .i64 n] w fun e w' => e = .returned (.agg #[.int .i64 (M.nxt x n).i, .int .i64 (M.nxt x n).t]) ∧ Below w.heap.size w w' := by
  obtain ⟨i, t⟩ := x
  simp only
  have HB := Hid_of (fun a b => bel_up (bel1 w (.cells #[.int .i64 i, .int .i64 t] 60)) (bel1 _ (.cells #[a, b] 60)) (Nat.le_refl _))
  by_cases h0 : i < 0
  · have HQ : Hid (M.nxt ⟨i, t⟩ n = ⟨0, 0⟩) := Hid_of (by unfold M.nxt; rw [if_pos (.inl h0)])
    have d0 : decide (i < 0) = true := decide_eq_true h0
    rw [HQ.out]
    clear HQ h0
    go_enter Try.func65, Try.ntmps65
    go_wp2
    refine bodyPost_ret (v := .agg #[.int .i64 0, .int .i64 0]) ?_ rfl ⟨rfl, HB.out _ _⟩
    exact results_cell_row f65_res _ _ (w.heap.size + 1) 60 _ (0, 0) _ rfl (heap_alloc2_new w _ _) Try.underlying60 rfl Try.size60
  · have d0 : decide (i < 0) = false := decide_eq_false h0
    by_cases h1 : 2147483647 ≤ i
    · have HQ : Hid (M.nxt ⟨i, t⟩ n = ⟨0, 0⟩) := Hid_of (by unfold M.nxt; rw [if_pos (.inr h1)])
      have d1 : decide (2147483647 ≤ i) = true := decide_eq_true h1
      rw [HQ.out]
      clear HQ h0 h1
      go_enter Try.func65, Try.ntmps65
      go_wp2
      refine bodyPost_ret (v := .agg #[.int .i64 0, .int .i64 0]) ?_ rfl ⟨rfl, HB.out _ _⟩
      exact results_cell_row f65_res _ _ (w.heap.size + 1) 60 _ (0, 0) _ rfl (heap_alloc2_new w _ _) Try.underlying60 rfl Try.size60
    · have d1 : decide (2147483647 ≤ i) = false := decide_eq_false h1
      have HQ : Hid (M.nxt ⟨i, t⟩ n = ⟨i + 1, M.nod n⟩) := Hid_of (by unfold M.nxt; rw [if_neg (by simp only; omega)])
      have hw : IntKind.i64.wrap (i + 1) = i + 1 := by rw [IntKind.wrap_i64]; omega
      rw [HQ.out]
      clear HQ
      have HN : Hid (min (max n 0) 6 = M.nod n) := rfl
      clear h0 h1
      go_enter Try.func65, Try.ntmps65
      go_wp2
      rw [HN.out]
      refine bodyPost_ret (v := .agg #[.int .i64 (i + 1), .int .i64 (M.nod n)]) ?_ rfl ⟨rfl, HB.out _ _⟩
      exact results_cell_row f65_res _ _ (w.heap.size + 1) 60 _ (0, 0) _ rfl (heap_alloc2_new w _ _) Try.underlying60 rfl Try.size60
end Go.Proofs.Ytgodnpngdbelhaa
