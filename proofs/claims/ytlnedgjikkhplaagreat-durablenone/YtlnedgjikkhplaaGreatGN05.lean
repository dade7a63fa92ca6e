/-
  How two ballots are held against each other.
  Which of two ballots is less, as the document tells it; which ballots may be.
  A text is cloned.
-/
import Derived.Test.YtlnedgjikkhplaaGreatGN04
import Derived.Lib.Strings
import Derived.Lib.BufferWrite
import Derived.Lib.UnsafeStr
section
namespace Go.Proofs.YtlnedgjikkhplaaGreat.Na
open Go.RowKit
set_option linter.unusedVariables false
open M (E)

theorem isnan_any (a : Int) (w : World) : Calls Tryz.prog 158 #[.int .i64 a] w fun e w' => e = .returned (.bool false) ∧ w' = w := by
  go_enter Tryz.func158, Tryz.ntmps158
  go_wp2
  go_ret
  exact ⟨rfl, rfl⟩
set_option maxHeartbeats 400000 in
theorem compare_any (a b : Int) (w : World) : Calls Tryz.prog 118 #[.int .i64 a, .int .i64 b] w fun e w' => e = .returned (.int .i64 (M.cmp a b)) ∧ w' = w := by
  rcases M.cmp_three a b with ⟨h, e⟩ | ⟨h, e⟩ | ⟨h, e⟩
  · rw [e]
    clear e
    go_enter Tryz.func118, Tryz.ntmps118
    go_wp2_with fail
    refine (isnan_any _ _).mono ?_
    rintro e w1 ⟨rfl, rfl⟩
    go_wp2_with fail
    refine (isnan_any _ _).mono ?_
    rintro e w2 ⟨rfl, rfl⟩
    go_wp2
    go_ret
    exact ⟨rfl, rfl⟩
  · rw [e]
    clear e
    subst h
    go_enter Tryz.func118, Tryz.ntmps118
    go_wp2_with fail
    refine (isnan_any _ _).mono ?_
    rintro e w1 ⟨rfl, rfl⟩
    go_wp2_with fail
    refine (isnan_any _ _).mono ?_
    rintro e w2 ⟨rfl, rfl⟩
    go_wp2
    go_ret
    exact ⟨rfl, rfl⟩
  · rw [e]
    clear e
    have h' : ¬ a < b := by omega
    go_enter Tryz.func118, Tryz.ntmps118
    go_wp2_with fail
    refine (isnan_any _ _).mono ?_
    rintro e w1 ⟨rfl, rfl⟩
    go_wp2_with fail
    refine (isnan_any _ _).mono ?_
    rintro e w2 ⟨rfl, rfl⟩
    go_wp2
    go_ret
    exact ⟨rfl, rfl⟩
def orI (x y : Int) : Int := if x = 0 then y else x
set_option maxHeartbeats 400000 in
theorem or_any (g : Nat) (x y : Int) (w : World) (h : w.heap[g]? = some (.cells #[.int .i64 x, .int .i64 y] 3 (0, 0))) :
    Calls Tryz.prog 116 #[.slice (some ⟨g, 0, none⟩) 2 2] w fun e w' => e = .returned (.int .i64 (orI x y)) ∧ w' = w := by
  obtain ⟨⟨c0, c1⟩, _⟩ := row2 h
  clear h
  have H1 : Hid (x ≠ 0 → orI x y = x) := fun h => by unfold orI; rw [if_neg h]
  have H2 : Hid (x = 0 → orI x y = y) := fun h => by unfold orI; rw [if_pos h]
  generalize orI x y = R at *
  go_enter Tryz.func116, Tryz.ntmps116
  go_wp2
  go_loopw [8] (fun i wr => ∃ k : Nat, k ≤ 2 ∧ (0 < k → x = 0) ∧ (1 < k → y = 0) ∧ i = .int .i64 k ∧ wr = w) (fun i _ => 2 - (intOf i).toNat)
  case atStart => exact ⟨0, by omega, by omega, by omega, rfl, rfl⟩
  case round =>
    obtain ⟨k, hk, hx, hy, rfl, rfl⟩ := hrel
    match k, hk with
    | 0, _ =>
      clear hx hy
      by_cases h0 : x = 0
      · have hb : (x == 0) = true := by simpa using h0
        have HX := Hid_of h0
        clear h0
        go_wp2
        go_roundw
        case rel => exact ⟨1, by omega, fun _ => HX.out, by omega, rfl, by trivial⟩
        case measure => simp [intOf]
      · obtain rfl := H1.out h0
        go_wp2
        go_ret
        exact ⟨rfl, rfl⟩
    | 1, _ =>
      have HX := Hid_of (hx (by omega))
      obtain rfl := H2.out HX.out
      clear hx hy H1 H2
      by_cases h0 : R = 0
      · have HY := Hid_of h0
        have hb : (R == 0) = true := by simpa using h0
        clear h0
        go_wp2
        go_roundw
        case rel => exact ⟨2, by omega, fun _ => HX.out, fun _ => HY.out, rfl, by trivial⟩
        case measure => simp [intOf]
      · go_wp2
        go_ret
        exact ⟨rfl, rfl⟩
    | 2, _ =>
      have HX := hx (by omega)
      have HY := hy (by omega)
      obtain rfl := H2.out HX
      subst HY
      clear hx hy H1 H2
      go_wp2
      go_ret
      exact ⟨rfl, rfl⟩
set_option maxRecDepth 100000 in
set_option maxHeartbeats 2000000 in
theorem cmp_any (x y : E) (w : World) :
    Calls Tryz.prog 117 #[.agg #[.int .i64 x.i, .int .i64 x.t], .agg #[.int .i64 y.i, .int .i64 y.t]] w fun e w' => e = .returned (.int .i64 (M.cmpE x y)) ∧ Below w.heap.size w w' := by
  have HC : Hid (M.cmpE x y = orI (M.cmp x.i y.i) (M.cmp x.t y.t)) := rfl
  rw [HC.out]
  clear HC
  obtain ⟨xi, xt⟩ := x
  obtain ⟨yi, yt⟩ := y
  simp only
  obtain ⟨W1, HW1⟩ : ∃ W1, Hid ((w.alloc (.cells #[.int .i64 xi, .int .i64 xt] 36)).alloc (.cells #[.int .i64 yi, .int .i64 yt] 36) = W1) := ⟨_, rfl⟩
  have HB1 : Hid (Below w.heap.size w W1) := by rw [← HW1.out]; exact (bel1 w _).alloc (by simp) _
  have hs1 : W1.heap.size = w.heap.size + 2 := by rw [← HW1.out]; simp
  have HS : Hid (∀ w', Below W1.heap.size W1 w' → (w'.cell? ⟨w.heap.size, 0, none⟩ = some (.int .i64 xi) ∧ w'.cell? ⟨w.heap.size, 1, none⟩ = some (.int .i64 xt)) ∧ (w'.cell? ⟨w.heap.size + 1, 0, none⟩ = some (.int .i64 yi) ∧ w'.cell? ⟨w.heap.size + 1, 1, none⟩ = some (.int .i64 yt))) := by
    intro w' hb
    have h1 : W1.heap[w.heap.size]? = some (.cells #[.int .i64 xi, .int .i64 xt] 36 (0, 0)) := by rw [← HW1.out]; exact heap_alloc2_old w _ _
    have h2 : W1.heap[w.heap.size + 1]? = some (.cells #[.int .i64 yi, .int .i64 yt] 36 (0, 0)) := by rw [← HW1.out]; exact heap_alloc2_new w _ _
    exact ⟨(row2 ((hb.block _ (by omega)).trans h1)).1, (row2 ((hb.block _ (by omega)).trans h2)).1⟩
  go_enter Tryz.func117, Tryz.ntmps117
  go_wp2_with fail
  rw [HW1.out]
  clear HW1
  have HL : Hid (∀ a b : Value, (W1.alloc (.cells #[a, b] 3)).drew.heap[w.heap.size + 2]? = some (.cells #[a, b] 3 (0, 0))) := fun a b => by rw [← hs1]; exact heap_alloc_last W1 _
  refine wp_region_held_drew (S := fun wq => Below (W1).heap.size (W1) wq) (by kernel_rfl) (Below.drew (Below.refl _ _)) (fun hHeld => ?_)
  refine wpAnyH_take (i := 0) (oi := ?p0a) (v := ?v0a) ?o0a (by kernel_rfl) (by kernel_rfl) (by kernel_rfl) ?q0a ?y0a hHeld ?r0a
  case o0a => simp only [List.getElem?_toArray, List.getElem?_cons_zero]; rfl
  case q0a => exact fun _ _ _ h => h
  case y0a => (refine Or.inl ⟨rfl, ?_⟩; intro wq hq; obtain ⟨⟨a0, a1⟩, ⟨b0, b1⟩⟩ := HS.out wq hq; go_simp; try with_reducible rfl)
  simp only [Act.put, List.setIfInBounds_toArray, List.set_cons_zero, List.set_cons_succ]
  refine wpAnyH_take (i := 1) (oi := ?p1a) (v := ?v1a) ?o1a (by kernel_rfl) (by kernel_rfl) (by kernel_rfl) ?q1a ?y1a hHeld ?r1a
  case o1a => simp only [List.getElem?_toArray, List.getElem?_cons_succ, List.getElem?_cons_zero]; rfl
  case q1a => exact fun _ _ _ h => h
  case y1a => (refine Or.inl ⟨rfl, ?_⟩; intro wq hq; obtain ⟨⟨a0, a1⟩, ⟨b0, b1⟩⟩ := HS.out wq hq; go_simp; try with_reducible rfl)
  simp only [Act.put, List.setIfInBounds_toArray, List.set_cons_zero, List.set_cons_succ]
  refine wpAnyH_take (i := 2) (oi := ?p2a) (v := ?v2a) ?o2a (by kernel_rfl) (by kernel_rfl) (by kernel_rfl) ?q2a ?y2a hHeld ?r2a
  case o2a => simp only [List.getElem?_toArray, List.getElem?_cons_succ, List.getElem?_cons_zero]; rfl
  case q2a => exact fun _ _ _ h => h
  case y2a => (refine Or.inl ⟨rfl, ?_⟩; intro wq hq; obtain ⟨⟨a0, a1⟩, ⟨b0, b1⟩⟩ := HS.out wq hq; go_simp; try with_reducible rfl)
  simp only [Act.put, List.setIfInBounds_toArray, List.set_cons_zero, List.set_cons_succ]
  refine wpAnyH_take (i := 3) (oi := ?p3a) (v := ?v3a) ?o3a (by kernel_rfl) (by kernel_rfl) (by kernel_rfl) ?q3a ?y3a hHeld ?r3a
  case o3a => simp only [List.getElem?_toArray, List.getElem?_cons_succ, List.getElem?_cons_zero]; rfl
  case q3a => exact fun _ _ _ h => h
  case y3a => (refine Or.inl ⟨rfl, ?_⟩; intro wq hq; obtain ⟨⟨a0, a1⟩, ⟨b0, b1⟩⟩ := HS.out wq hq; go_simp; try with_reducible rfl)
  simp only [Act.put, List.setIfInBounds_toArray, List.set_cons_zero, List.set_cons_succ]
  refine wpAnyH_take (i := 5) (oi := ?p5a) (v := ?v5a) ?o5a (by kernel_rfl) (by kernel_rfl) (by kernel_rfl) ?q5a ?y5a hHeld ?r5a
  case o5a => simp only [List.getElem?_toArray, List.getElem?_cons_succ, List.getElem?_cons_zero]; rfl
  case q5a => exact fun _ _ _ h => h
  case y5a => (refine Or.inl ⟨rfl, ?_⟩; intro wq hq; obtain ⟨⟨a0, a1⟩, ⟨b0, b1⟩⟩ := HS.out wq hq; go_simp; try with_reducible rfl)
  simp only [Act.put, List.setIfInBounds_toArray, List.set_cons_zero, List.set_cons_succ]
  refine wpAnyH_take (i := 6) (oi := ?p6a) (v := ?v6a) ?o6a (by kernel_rfl) (by kernel_rfl) (by kernel_rfl) ?q6a ?y6a hHeld ?r6a
  case o6a => simp only [List.getElem?_toArray, List.getElem?_cons_succ, List.getElem?_cons_zero]; rfl
  case q6a => exact fun _ _ _ h => h
  case y6a => (refine Or.inl ⟨rfl, ?_⟩; intro wq hq; obtain ⟨⟨a0, a1⟩, ⟨b0, b1⟩⟩ := HS.out wq hq; go_simp; try with_reducible rfl)
  simp only [Act.put, List.setIfInBounds_toArray, List.set_cons_zero, List.set_cons_succ]
  refine wpAnyH_take (i := 7) (oi := ?p7a) (v := ?v7a) ?o7a (by kernel_rfl) (by kernel_rfl) (by kernel_rfl) ?q7a ?y7a hHeld ?r7a
  case o7a => simp only [List.getElem?_toArray, List.getElem?_cons_succ, List.getElem?_cons_zero]; rfl
  case q7a => exact fun _ _ _ h => h
  case y7a => (refine Or.inl ⟨rfl, ?_⟩; intro wq hq; obtain ⟨⟨a0, a1⟩, ⟨b0, b1⟩⟩ := HS.out wq hq; go_simp; try with_reducible rfl)
  simp only [Act.put, List.setIfInBounds_toArray, List.set_cons_zero, List.set_cons_succ]
  refine wpAnyH_take (i := 8) (oi := ?p8a) (v := ?v8a) ?o8a (by kernel_rfl) (by kernel_rfl) (by kernel_rfl) ?q8a ?y8a hHeld ?r8a
  case o8a => simp only [List.getElem?_toArray, List.getElem?_cons_succ, List.getElem?_cons_zero]; rfl
  case q8a => exact fun _ _ _ h => h
  case y8a => (refine Or.inl ⟨rfl, ?_⟩; intro wq hq; obtain ⟨⟨a0, a1⟩, ⟨b0, b1⟩⟩ := HS.out wq hq; go_simp; try with_reducible rfl)
  simp only [Act.put, List.setIfInBounds_toArray, List.set_cons_zero, List.set_cons_succ]
  refine wpAnyH_ready (rs := [4]) (by kernel_rfl) (by simp) ?_
  refine AllReadyH.cons (o := ?p4a) ?o4a ?s4a AllReadyH.nil
  case o4a => simp only [List.getElem?_toArray, List.getElem?_cons_succ, List.getElem?_cons_zero]; rfl
  intro K hK
  go_simp
  refine (compare_any _ _ _).mono ?_
  rintro x w2 ⟨rfl, rfl⟩
  refine hK.out _ _ hHeld (fun hHeld => ?_)
  clear hK K
  refine wpAnyH_ready (rs := [9]) (by kernel_rfl) (by simp) ?_
  refine AllReadyH.cons (o := ?p9a) ?o9a ?s9a AllReadyH.nil
  case o9a => simp only [List.getElem?_toArray, List.getElem?_cons_succ, List.getElem?_cons_zero]; rfl
  intro K hK
  go_simp
  refine (compare_any _ _ _).mono ?_
  rintro x w3 ⟨rfl, rfl⟩
  refine hK.out _ _ hHeld (fun hHeld => ?_)
  clear hK K
  refine wpAnyH_ready (rs := [10]) (by kernel_rfl) (by simp) ?_
  refine AllReadyH.cons (o := ?p10a) ?o10a ?s10a AllReadyH.nil
  case o10a => simp only [List.getElem?_toArray, List.getElem?_cons_succ, List.getElem?_cons_zero]; rfl
  intro K hK
  go_simp
  
  refine hK.out _ _ ((bel1 W1 _).drew) (fun hHeld => ?_)
  clear hK K
  refine wpAnyH_ready (rs := [11]) (by kernel_rfl) (by simp) ?_
  refine AllReadyH.cons (o := ?p11a) ?o11a ?s11a AllReadyH.nil
  case o11a => simp only [List.getElem?_toArray, List.getElem?_cons_succ, List.getElem?_cons_zero]; rfl
  intro K hK
  go_simp
  refine (or_any (w.heap.size + 2) _ _ _ (HL.out _ _)).mono ?_
  rintro x w4 ⟨rfl, rfl⟩
  refine hK.out _ _ hHeld (fun hHeld => ?_)
  clear hK K
  refine wpAnyH_take (i := 12) (oi := ?p12a) (v := ?v12a) ?o12a (by kernel_rfl) (by kernel_rfl) (by kernel_rfl) ?q12a ?y12a hHeld ?r12a
  case o12a => simp only [List.getElem?_toArray, List.getElem?_cons_succ, List.getElem?_cons_zero]; rfl
  case q12a => exact fun _ _ _ h => h
  case y12a => (refine Or.inl ⟨rfl, ?_⟩; intro wq hq; obtain ⟨⟨a0, a1⟩, ⟨b0, b1⟩⟩ := HS.out wq hq; go_simp; try with_reducible rfl)
  simp only [Act.put, List.setIfInBounds_toArray, List.set_cons_zero, List.set_cons_succ]
  refine wpAnyH_done (by kernel_rfl) ?_ _
  go_wp2
  go_ret
  exact ⟨rfl, bel_up HB1.out hHeld (Nat.le_refl _)⟩
end Go.Proofs.YtlnedgjikkhplaaGreat.Na
end
section
namespace Go.Proofs.YtlnedgjikkhplaaGreat.Na
open Go.RowKit
set_option linter.unusedVariables false
open M (E V)

set_option maxHeartbeats 400000 in
theorem eq28 (a b c d : Int) (w : World) : (binOp .eql 36 (.agg #[.int .i64 a, .int .i64 b]) (.agg #[.int .i64 c, .int .i64 d])).run Tryz.prog w = .ok (.bool (decide (a = c) && decide (b = d))) w := by
  have u3 := Tryz.underlying3
  have a3 := Tryz.isAgg3
  have z3 := Tryz.sizeOf3
  have hS : Tryz.prog.underlying 36 = some (.struct (Tryz.prog.fieldsOf 36)) := by kernel_rfl
  have hp : Tryz.prog.stoodInHeld 36 = false := by kernel_rfl
  rw [run_eql_struct, show (10000 : Nat) = 9999 + 1 from rfl, run_equalIn_agg w 9999 36 _ _ hS hp]
  simp only [Program.fieldsOf, Tryz.underlying36]
  by_cases h1 : a = c
  · by_cases h2 : b = d
    · subst h1 h2
      go_simp
    · subst h1
      go_simp
  · go_simp

set_option maxHeartbeats 400000 in
theorem valid_any (x : E) (w : World) : Calls Tryz.prog 148 #[.agg #[.int .i64 x.i, .int .i64 x.t]] w fun e w' => e = .returned (.bool (M.vld x)) ∧ Below w.heap.size w w' := by
  obtain ⟨i, t⟩ := x
  simp only
  have HB := Hid_of (bel1 w (.cells #[.int .i64 i, .int .i64 t] 36))
  have HV : Hid (M.vld ⟨i, t⟩ = (decide (0 ≤ i) && decide (i ≤ 2147483647) && decide (0 ≤ t) && decide (t ≤ 6))) := rfl
  rw [HV.out]
  clear HV
  by_cases h0 : 0 ≤ i
  · have dh0 : decide (0 ≤ i) = true := decide_eq_true h0
    by_cases h1 : i ≤ 2147483647
    · have dh1 : decide (i ≤ 2147483647) = true := decide_eq_true h1
      by_cases h2 : 0 ≤ t
      · have dh2 : decide (0 ≤ t) = true := decide_eq_true h2
        by_cases h3 : t ≤ 6
        · have dh3 : decide (t ≤ 6) = true := decide_eq_true h3
          have eh0 : decide (0 ≤ i) = true := decide_eq_true (by omega)
          have eh1 : decide (i ≤ 2147483647) = true := decide_eq_true (by omega)
          have eh2 : decide (0 ≤ t) = true := decide_eq_true (by omega)
          have eh3 : decide (t ≤ 6) = true := decide_eq_true (by omega)
          rw [eh0, eh1, eh2, eh3]
          clear eh0 eh1 eh2 eh3 h0 h1 h2 h3
          go_enter Tryz.func148, Tryz.ntmps148
          go_wp2
          go_ret
          exact ⟨rfl, HB.out⟩
        · have dh3 : decide (t ≤ 6) = false := decide_eq_false h3
          have eh0 : decide (0 ≤ i) = true := decide_eq_true (by omega)
          have eh1 : decide (i ≤ 2147483647) = true := decide_eq_true (by omega)
          have eh2 : decide (0 ≤ t) = true := decide_eq_true (by omega)
          have eh3 : decide (t ≤ 6) = false := decide_eq_false (by omega)
          rw [eh0, eh1, eh2, eh3]
          clear eh0 eh1 eh2 eh3 h0 h1 h2 h3
          go_enter Tryz.func148, Tryz.ntmps148
          go_wp2
          go_ret
          exact ⟨rfl, HB.out⟩
      · have dh2 : decide (0 ≤ t) = false := decide_eq_false h2
        have eh0 : decide (0 ≤ i) = true := decide_eq_true (by omega)
        have eh1 : decide (i ≤ 2147483647) = true := decide_eq_true (by omega)
        have eh2 : decide (0 ≤ t) = false := decide_eq_false (by omega)
        rw [eh0, eh1, eh2]
        clear eh0 eh1 eh2 h0 h1 h2
        go_enter Tryz.func148, Tryz.ntmps148
        go_wp2
        go_ret
        exact ⟨rfl, HB.out⟩
    · have dh1 : decide (i ≤ 2147483647) = false := decide_eq_false h1
      have eh0 : decide (0 ≤ i) = true := decide_eq_true (by omega)
      have eh1 : decide (i ≤ 2147483647) = false := decide_eq_false (by omega)
      rw [eh0, eh1]
      clear eh0 eh1 h0 h1
      go_enter Tryz.func148, Tryz.ntmps148
      go_wp2
      go_ret
      exact ⟨rfl, HB.out⟩
  · have dh0 : decide (0 ≤ i) = false := decide_eq_false h0
    have eh0 : decide (0 ≤ i) = false := decide_eq_false (by omega)
    rw [eh0]
    clear eh0 h0
    go_enter Tryz.func148, Tryz.ntmps148
    go_wp2
    go_ret
    exact ⟨rfl, HB.out⟩
set_option maxHeartbeats 400000 in
theorem rvalid_any (x : E) (w : World) : Calls Tryz.prog 110 #[.agg #[.int .i64 x.i, .int .i64 x.t]] w fun e w' => e = .returned (.bool (M.vld x)) ∧ Below w.heap.size w w' := by
  obtain ⟨i, t⟩ := x
  simp only
  have HB := Hid_of (bel1 w (.cells #[.int .i64 i, .int .i64 t] 36))
  have HV : Hid (M.vld ⟨i, t⟩ = (decide (0 ≤ i) && decide (i ≤ 2147483647) && decide (0 ≤ t) && decide (t ≤ 6))) := rfl
  rw [HV.out]
  clear HV
  by_cases h0 : 0 ≤ i
  · have dh0 : decide (0 ≤ i) = true := decide_eq_true h0
    by_cases h1 : i < 2147483648
    · have dh1 : decide (i < 2147483648) = true := decide_eq_true h1
      by_cases h2 : 0 ≤ t
      · have dh2 : decide (0 ≤ t) = true := decide_eq_true h2
        by_cases h3 : t < 7
        · have dh3 : decide (t < 7) = true := decide_eq_true h3
          have eh0 : decide (0 ≤ i) = true := decide_eq_true (by omega)
          have eh1 : decide (i ≤ 2147483647) = true := decide_eq_true (by omega)
          have eh2 : decide (0 ≤ t) = true := decide_eq_true (by omega)
          have eh3 : decide (t ≤ 6) = true := decide_eq_true (by omega)
          rw [eh0, eh1, eh2, eh3]
          clear eh0 eh1 eh2 eh3 h0 h1 h2 h3
          go_enter Tryz.func110, Tryz.ntmps110
          go_wp2
          go_ret
          exact ⟨rfl, HB.out⟩
        · have dh3 : decide (t < 7) = false := decide_eq_false h3
          have eh0 : decide (0 ≤ i) = true := decide_eq_true (by omega)
          have eh1 : decide (i ≤ 2147483647) = true := decide_eq_true (by omega)
          have eh2 : decide (0 ≤ t) = true := decide_eq_true (by omega)
          have eh3 : decide (t ≤ 6) = false := decide_eq_false (by omega)
          rw [eh0, eh1, eh2, eh3]
          clear eh0 eh1 eh2 eh3 h0 h1 h2 h3
          go_enter Tryz.func110, Tryz.ntmps110
          go_wp2
          go_ret
          exact ⟨rfl, HB.out⟩
      · have dh2 : decide (0 ≤ t) = false := decide_eq_false h2
        have eh0 : decide (0 ≤ i) = true := decide_eq_true (by omega)
        have eh1 : decide (i ≤ 2147483647) = true := decide_eq_true (by omega)
        have eh2 : decide (0 ≤ t) = false := decide_eq_false (by omega)
        rw [eh0, eh1, eh2]
        clear eh0 eh1 eh2 h0 h1 h2
        go_enter Tryz.func110, Tryz.ntmps110
        go_wp2
        go_ret
        exact ⟨rfl, HB.out⟩
    · have dh1 : decide (i < 2147483648) = false := decide_eq_false h1
      have eh0 : decide (0 ≤ i) = true := decide_eq_true (by omega)
      have eh1 : decide (i ≤ 2147483647) = false := decide_eq_false (by omega)
      rw [eh0, eh1]
      clear eh0 eh1 h0 h1
      go_enter Tryz.func110, Tryz.ntmps110
      go_wp2
      go_ret
      exact ⟨rfl, HB.out⟩
  · have dh0 : decide (0 ≤ i) = false := decide_eq_false h0
    have eh0 : decide (0 ≤ i) = false := decide_eq_false (by omega)
    rw [eh0]
    clear eh0 h0
    go_enter Tryz.func110, Tryz.ntmps110
    go_wp2
    go_ret
    exact ⟨rfl, HB.out⟩
set_option maxHeartbeats 400000 in
theorem rcmp_any (x y : E) (w : World) :
    Calls Tryz.prog 111 #[.agg #[.int .i64 x.i, .int .i64 x.t], .agg #[.int .i64 y.i, .int .i64 y.t]] w fun e w' => e = .returned (.int .i64 (M.cmpE x y)) ∧ Below w.heap.size w w' := by
  have HC := Hid_of (M.cmpE_three x y)
  generalize M.cmpE x y = r at *
  obtain ⟨a, b⟩ := x
  obtain ⟨c, d⟩ := y
  simp only at HC ⊢
  have HB := Hid_of (bel_up (bel1 w (.cells #[.int .i64 a, .int .i64 b] 36)) (bel1 _ (.cells #[.int .i64 c, .int .i64 d] 36)) (Nat.le_refl _))
  have he := eq28 a b c d
  rcases HC.out with ⟨h, rfl⟩ | ⟨h, rfl⟩ | ⟨h, rfl⟩
  · by_cases h0 : a < c
    · have d0 : decide (a < c) = true := decide_eq_true h0
      clear h HC h0
      go_enter Tryz.func111, Tryz.ntmps111
      go_wp2
      go_ret
      exact ⟨rfl, HB.out⟩
    · have d0 : decide (a < c) = false := decide_eq_false h0
      obtain rfl : a = c := by omega
      have d1 : decide (b < d) = true := decide_eq_true (by omega)
      clear h HC h0
      go_enter Tryz.func111, Tryz.ntmps111
      go_wp2
      go_ret
      exact ⟨rfl, HB.out⟩
  · obtain ⟨rfl, rfl⟩ := h
    clear HC
    go_enter Tryz.func111, Tryz.ntmps111
    go_wp2
    go_ret
    exact ⟨rfl, HB.out⟩
  · by_cases h0 : a = c
    · obtain rfl := h0
      have d1 : decide (b < d) = false := decide_eq_false (by omega)
      have d2 : decide (b = d) = false := decide_eq_false (by omega)
      clear h HC
      go_enter Tryz.func111, Tryz.ntmps111
      go_wp2
      go_ret
      exact ⟨rfl, HB.out⟩
    · have d0 : decide (a < c) = false := decide_eq_false (by omega)
      have d2 : decide (a = c) = false := decide_eq_false h0
      have d3 : (a == c) = false := by simpa using h0
      clear h HC
      go_enter Tryz.func111, Tryz.ntmps111
      go_wp2
      go_ret
      exact ⟨rfl, HB.out⟩
end Go.Proofs.YtlnedgjikkhplaaGreat.Na
end
section
namespace Go.Proofs.YtlnedgjikkhplaaGreat.Na
open Go.RowKit
set_option linter.unusedVariables false

theorem Tryz.info5 : (Tryz.prog.info? 5).map (fun i => (i.zero, i.size, i.bytes)) = some (some (.int .u8 0), 1, 1) := by kernel_rfl

set_option maxRecDepth 100000 in
theorem sclone0_any (s : ByteArray) (w : World) (hlim : s.size ≤ 140737488351232) :
    Calls Tryz.prog 168 #[.string s] w fun e w' => e = .returned (.string s) ∧ Below w.heap.size w w' := by
  by_cases h0 : s.size = 0
  · have hs : s = ⟨#[]⟩ := by
      apply ByteArray.ext
      exact Array.eq_empty_of_size_eq_zero h0
    subst hs
    go_enter Tryz.func168, Tryz.ntmps168
    go_wp2
    go_ret
    exact ⟨rfl, Below.refl _ _⟩
  · obtain ⟨i0, hi, hz0, hz1, hz2⟩ := info_parts Tryz.info5
    have hinfo : (Tryz.prog.info? 5).map (·.size) = some 1 := by rw [hi]; simp [hz1]
    have hco : Tryz.prog.cellsOf 5 = 1 := by simp [Program.cellsOf, hi, hz1]
    obtain ⟨M, hM⟩ : ∃ M, M = madeCells (Value.int .u8 0).cells (((s.size : Nat) : Int).toNat * i0.size) := ⟨_, rfl⟩
    have hMs : M.size = s.size := by rw [hM, size_madeCells, hz1]; simp
    have hmk : ∀ W : World, (Instr.makeSlice 138 (.int .i64 (s.size : Int)) (.int .i64 (s.size : Int))).run Tryz.prog W = .ok (.slice (some ⟨W.heap.size, 0, none⟩) s.size s.size) (W.alloc (.cells M 5)) := fun W => by
      have h := run_make (P := Tryz.prog) W 138 5 i0 (.int .u8 0) Tryz.underlying138 hi hz0 .i64 .i64 (s.size : Int) (s.size : Int) (by omega) (by omega) (by rw [hz2]; omega) (by omega)
      rw [← hM] at h
      simpa using h
    clear hM
    have hcp := Lib.run_copy_row_string (P := Tryz.prog) (w.alloc (.cells M 5)) 138 9 3 5 w.heap.size 0 s.size s.size s M 5 Tryz.underlying138 hinfo (heap_alloc_new w _) (Nat.le_refl _) (by omega)
    obtain ⟨Y, hY⟩ : ∃ Y, Y = (M.toList.take 0 ++ Lib.byteCells s.data.toList ++ M.toList.drop (0 + s.size)).toArray := ⟨_, rfl⟩
    rw [← hY] at hcp
    have hYl : Y.toList = Lib.byteCells s.data.toList := by
      rw [hY, List.toList_toArray, List.take_zero, List.nil_append, List.drop_of_length_le (by rw [Array.length_toList]; omega), List.append_nil]
    have hYs : Y.size = s.size := by rw [← Array.length_toList, hYl, Lib.byteCells_length, ← Lib.size_eq]
    have hgY : ((w.alloc (.cells M 5)).setRow w.heap.size Y).heap[w.heap.size]? = some (.cells Y 5 (0, 0)) := setRow_heap _ _ M _ 5 (0, 0) (heap_alloc_new w _)
    have hne : s.data.toList ≠ [] := fun e => h0 (by rw [Lib.size_eq, e]; rfl)
    have hUS := Lib.run_unsafeString_row (P := Tryz.prog) ((w.alloc (.cells M 5)).setRow w.heap.size Y) 206 3 9 5 Tryz.underlying206 hco w.heap.size Y.size (by unfold World.shape?; rw [hgY]) s.data.toList hne (by rw [← Lib.size_eq]; omega) (by rw [← Lib.size_eq]; omega)
      (fun j x hx => Lib.cells_of_row hgY Y.size j _ (by rw [List.take_of_length_le (by rw [Array.length_toList]; exact Nat.le_refl _), hYl]; simp [Lib.byteCells, hx]))
    rw [← Lib.size_eq] at hUS
    clear hY
    go_enter Tryz.func168, Tryz.ntmps168
    go_wp2
    go_ret
    have hb1 : Below w.heap.size w (w.alloc (.cells M 5)) := (Below.refl _ w).alloc (Nat.le_refl _) _
    have hb2 : Below w.heap.size (w.alloc (.cells M 5)) ((w.alloc (.cells M 5)).setRow w.heap.size Y) := ⟨rfl, rfl, rfl, by simp, fun k hk => setRow_other _ _ _ _ (by omega)⟩
    exact ⟨rfl, Lib.below_freeze (hb1.trans hb2) (p := ⟨w.heap.size, 0, none⟩) (Nat.le_refl _) _⟩

set_option maxHeartbeats 400000 in
theorem sclone_any (s : ByteArray) (w : World) (hs : s.size ≤ 140737488351232) :
    Calls Tryz.prog 134 #[.string s] w fun e w' => e = .returned (.string s) ∧ Below w.heap.size w w' := by
  go_enter Tryz.func134, Tryz.ntmps134
  go_wp2_with fail
  refine (sclone0_any s w hs).mono ?_
  rintro e w1 ⟨rfl, hb⟩
  go_wp2
  go_ret
  exact ⟨rfl, hb⟩
end Go.Proofs.YtlnedgjikkhplaaGreat.Na
end
