/-
  The next one of a node is greater than the one ahead, and the node's.
-/
import Derived.Test.YtkohbjpinoonmaaH
namespace Go.Proofs.Ytkohbjpinoonmaa
open Go.RowKit
set_option linter.unusedVariables false
open M (E V)

theorem nxt_good (x : E) (n : Int) (hv : M.vld x = true) (hi : x.i ≠ 2147483647) (h0 : 0 ≤ n) (h7 : n < 7) : M.cmpE (M.nxt x n) x = 1 ∧ (M.nxt x n).t = n ∧ M.vld (M.nxt x n) = true := by
  obtain ⟨i, t⟩ := x
  simp only [M.vld, Bool.and_eq_true, decide_eq_true_eq] at hv hi
  have e : M.nxt ⟨i, t⟩ n = ⟨i + 1, n⟩ := by
    unfold M.nxt M.nod
    rw [if_neg (by simp only; omega)]
    congr 1
    omega
  rw [e]
  refine ⟨?_, rfl, ?_⟩
  · rcases M.cmpE_three ⟨i + 1, n⟩ ⟨i, t⟩ with ⟨h, _⟩ | ⟨h, _⟩ | ⟨_, h⟩
    · simp only at h; omega
    · simp only at h; omega
    · exact h
  · simp only [M.vld, Bool.and_eq_true, decide_eq_true_eq]
    omega
set_option maxRecDepth 100000 in
set_option maxHeartbeats 1000000 in
theorem next_walk (x : E) (n : Int) (w : World) : Calls Try.prog 6 #[.agg #[.int .i64 x.i, .int .i64 x.t], .int .i64 n] w fun e w' => e = .returned (.bool true) ∧ Below w.heap.size w w' := by
  have ha1 := heap_alloc_last w (.cells #[.int .i64 x.i, .int .i64 x.t] 23)
  obtain ⟨W1, HW1⟩ : ∃ W1, Hid (w.alloc (.cells #[.int .i64 x.i, .int .i64 x.t] 23) = W1) := ⟨_, Hid_of rfl⟩
  have HB1 : Hid (Below w.heap.size w W1) := by rw [← HW1.out]; exact bel1 w _
  rw [HW1.out] at ha1
  have HA1 := Hid_of ha1
  obtain ⟨⟨p0, p1⟩, -⟩ := row2 ha1
  clear ha1
  have hn := next_any x n
  have hv := valid_any x
  have HG := Hid_of (nxt_good x n)
  have HVY := Hid_of (valid_any (M.nxt x n))
  have HC := Hid_of (cmp_any (M.nxt x n) x)
  generalize M.nxt x n = y at *
  cases hx : M.vld x with
  | false =>
    rw [hx] at hv
    clear hx HG HVY HC
    go_enter Try.func6, Try.ntmps6
    go_upto_region 1 with fail
    rw [HW1.out]
    clear HW1
    go_wp2_with fail
    refine (hn _).mono ?_
    rintro e w2 ⟨rfl, hb2⟩
    have HB2 := Hid_of (bel_up HB1.out hb2 (Nat.le_refl _))
    have ha2 := bel_row HA1.out hb2
    have hr3 := heap_alloc_last w2 (.cells #[.int .i64 y.i, .int .i64 y.t] 23)
    obtain ⟨W3, HW3⟩ : ∃ W3, Hid (w2.alloc (.cells #[.int .i64 y.i, .int .i64 y.t] 23) = W3) := ⟨_, Hid_of rfl⟩
    have HB3 : Hid (Below w2.heap.size w2 W3) := by rw [← HW3.out]; exact bel1 w2 _
    rw [HW3.out] at hr3
    have HA3 := Hid_of (bel_row ha2 HB3.out)
    have HY3 := Hid_of hr3
    have HBW := Hid_of (bel_up HB2.out HB3.out (Nat.le_refl _))
    obtain ⟨⟨a0, a1⟩, -⟩ := row2 HA3.out
    obtain ⟨⟨y0, y1⟩, -⟩ := row2 HY3.out
    clear hb2 ha2 hr3 HB2 HB3 HA1 HB1 p0 p1 hn
    go_upto_region 2 with fail
    rw [HW3.out]
    clear HW3
    go_wp2_with fail
    refine (hv _).mono ?_
    rintro e w4 ⟨rfl, hb4⟩
    have HB4 := Hid_of (bel_up HBW.out hb4 (Nat.le_refl _))
    have HA4 := Hid_of (bel_row HA3.out hb4)
    have HY4 := Hid_of (bel_row HY3.out hb4)
    obtain ⟨⟨c0, c1⟩, -⟩ := row2 HA4.out
    obtain ⟨⟨z0, z1⟩, -⟩ := row2 HY4.out
    clear hb4 a0 a1 y0 y1 HA3 HY3 HBW hv
    go_wp2_with fail
    refine (awake_any _).mono ?_
    rintro e w5 ⟨rfl, hb5⟩
    have HB5 := Hid_of (bel_up HB4.out hb5 (Nat.le_refl _))
    clear hb5 c0 c1 z0 z1
    go_wp2
    go_ret
    exact ⟨rfl, HB5.out⟩
  | true =>
    rw [hx] at hv
    have HX := Hid_of hx
    clear hx
    by_cases hi : x.i = 2147483647
    · have d0 : (x.i == 2147483647) = true := by simpa using hi
      generalize x.i = xi at *
      clear hi HG HVY HC
      go_enter Try.func6, Try.ntmps6
      go_upto_region 1 with fail
      rw [HW1.out]
      clear HW1
      go_wp2_with fail
      refine (hn _).mono ?_
      rintro e w2 ⟨rfl, hb2⟩
      have HB2 := Hid_of (bel_up HB1.out hb2 (Nat.le_refl _))
      have ha2 := bel_row HA1.out hb2
      have hr3 := heap_alloc_last w2 (.cells #[.int .i64 y.i, .int .i64 y.t] 23)
      obtain ⟨W3, HW3⟩ : ∃ W3, Hid (w2.alloc (.cells #[.int .i64 y.i, .int .i64 y.t] 23) = W3) := ⟨_, Hid_of rfl⟩
      have HB3 : Hid (Below w2.heap.size w2 W3) := by rw [← HW3.out]; exact bel1 w2 _
      rw [HW3.out] at hr3
      have HA3 := Hid_of (bel_row ha2 HB3.out)
      have HY3 := Hid_of hr3
      have HBW := Hid_of (bel_up HB2.out HB3.out (Nat.le_refl _))
      obtain ⟨⟨a0, a1⟩, -⟩ := row2 HA3.out
      obtain ⟨⟨y0, y1⟩, -⟩ := row2 HY3.out
      clear hb2 ha2 hr3 HB2 HB3 HA1 HB1 p0 p1 hn
      go_upto_region 2 with fail
      rw [HW3.out]
      clear HW3
      go_wp2_with fail
      refine (hv _).mono ?_
      rintro e w4 ⟨rfl, hb4⟩
      have HB4 := Hid_of (bel_up HBW.out hb4 (Nat.le_refl _))
      have HA4 := Hid_of (bel_row HA3.out hb4)
      have HY4 := Hid_of (bel_row HY3.out hb4)
      obtain ⟨⟨c0, c1⟩, -⟩ := row2 HA4.out
      obtain ⟨⟨z0, z1⟩, -⟩ := row2 HY4.out
      clear hb4 a0 a1 y0 y1 HA3 HY3 HBW hv
      go_wp2_with fail
      refine (awake_any _).mono ?_
      rintro e w5 ⟨rfl, hb5⟩
      have HB5 := Hid_of (bel_up HB4.out hb5 (Nat.le_refl _))
      clear hb5 c0 c1 z0 z1
      go_wp2
      go_ret
      exact ⟨rfl, HB5.out⟩
    · have d0 : (x.i == 2147483647) = false := by simpa using hi
      by_cases h0 : n < 0
      · have d1 : decide (n < 0) = true := decide_eq_true h0
        clear hi h0 HG HVY HC
        go_enter Try.func6, Try.ntmps6
        go_upto_region 1 with fail
        rw [HW1.out]
        clear HW1
        go_wp2_with fail
        refine (hn _).mono ?_
        rintro e w2 ⟨rfl, hb2⟩
        have HB2 := Hid_of (bel_up HB1.out hb2 (Nat.le_refl _))
        have ha2 := bel_row HA1.out hb2
        have hr3 := heap_alloc_last w2 (.cells #[.int .i64 y.i, .int .i64 y.t] 23)
        obtain ⟨W3, HW3⟩ : ∃ W3, Hid (w2.alloc (.cells #[.int .i64 y.i, .int .i64 y.t] 23) = W3) := ⟨_, Hid_of rfl⟩
        have HB3 : Hid (Below w2.heap.size w2 W3) := by rw [← HW3.out]; exact bel1 w2 _
        rw [HW3.out] at hr3
        have HA3 := Hid_of (bel_row ha2 HB3.out)
        have HY3 := Hid_of hr3
        have HBW := Hid_of (bel_up HB2.out HB3.out (Nat.le_refl _))
        obtain ⟨⟨a0, a1⟩, -⟩ := row2 HA3.out
        obtain ⟨⟨y0, y1⟩, -⟩ := row2 HY3.out
        clear hb2 ha2 hr3 HB2 HB3 HA1 HB1 p0 p1 hn
        go_upto_region 2 with fail
        rw [HW3.out]
        clear HW3
        go_wp2_with fail
        refine (hv _).mono ?_
        rintro e w4 ⟨rfl, hb4⟩
        have HB4 := Hid_of (bel_up HBW.out hb4 (Nat.le_refl _))
        have HA4 := Hid_of (bel_row HA3.out hb4)
        have HY4 := Hid_of (bel_row HY3.out hb4)
        obtain ⟨⟨c0, c1⟩, -⟩ := row2 HA4.out
        obtain ⟨⟨z0, z1⟩, -⟩ := row2 HY4.out
        clear hb4 a0 a1 y0 y1 HA3 HY3 HBW hv
        go_wp2_with fail
        refine (awake_any _).mono ?_
        rintro e w5 ⟨rfl, hb5⟩
        have HB5 := Hid_of (bel_up HB4.out hb5 (Nat.le_refl _))
        clear hb5 c0 c1 z0 z1
        go_wp2
        go_ret
        exact ⟨rfl, HB5.out⟩
      · have d1 : decide (n < 0) = false := decide_eq_false h0
        by_cases h7 : 7 ≤ n
        · have d2 : decide (7 ≤ n) = true := decide_eq_true h7
          clear hi h0 h7 HG HVY HC
          go_enter Try.func6, Try.ntmps6
          go_upto_region 1 with fail
          rw [HW1.out]
          clear HW1
          go_wp2_with fail
          refine (hn _).mono ?_
          rintro e w2 ⟨rfl, hb2⟩
          have HB2 := Hid_of (bel_up HB1.out hb2 (Nat.le_refl _))
          have ha2 := bel_row HA1.out hb2
          have hr3 := heap_alloc_last w2 (.cells #[.int .i64 y.i, .int .i64 y.t] 23)
          obtain ⟨W3, HW3⟩ : ∃ W3, Hid (w2.alloc (.cells #[.int .i64 y.i, .int .i64 y.t] 23) = W3) := ⟨_, Hid_of rfl⟩
          have HB3 : Hid (Below w2.heap.size w2 W3) := by rw [← HW3.out]; exact bel1 w2 _
          rw [HW3.out] at hr3
          have HA3 := Hid_of (bel_row ha2 HB3.out)
          have HY3 := Hid_of hr3
          have HBW := Hid_of (bel_up HB2.out HB3.out (Nat.le_refl _))
          obtain ⟨⟨a0, a1⟩, -⟩ := row2 HA3.out
          obtain ⟨⟨y0, y1⟩, -⟩ := row2 HY3.out
          clear hb2 ha2 hr3 HB2 HB3 HA1 HB1 p0 p1 hn
          go_upto_region 2 with fail
          rw [HW3.out]
          clear HW3
          go_wp2_with fail
          refine (hv _).mono ?_
          rintro e w4 ⟨rfl, hb4⟩
          have HB4 := Hid_of (bel_up HBW.out hb4 (Nat.le_refl _))
          have HA4 := Hid_of (bel_row HA3.out hb4)
          have HY4 := Hid_of (bel_row HY3.out hb4)
          obtain ⟨⟨c0, c1⟩, -⟩ := row2 HA4.out
          obtain ⟨⟨z0, z1⟩, -⟩ := row2 HY4.out
          clear hb4 a0 a1 y0 y1 HA3 HY3 HBW hv
          go_wp2_with fail
          refine (awake_any _).mono ?_
          rintro e w5 ⟨rfl, hb5⟩
          have HB5 := Hid_of (bel_up HB4.out hb5 (Nat.le_refl _))
          clear hb5 c0 c1 z0 z1
          go_wp2
          go_ret
          exact ⟨rfl, HB5.out⟩
        · have d2 : decide (7 ≤ n) = false := decide_eq_false h7
          obtain ⟨g1, g2, g3⟩ := HG.out HX.out hi (by omega) (by omega)
          have hc := HC.out
          rw [g1] at hc
          have hvy := HVY.out
          rw [g3] at hvy
          clear hi h0 h7 HG HVY HC g1 g3
          obtain ⟨yi, yt⟩ := y
          simp only at g2 hc hvy hn
          subst g2
          go_enter Try.func6, Try.ntmps6
          go_upto_region 1 with fail
          rw [HW1.out]
          clear HW1
          go_wp2_with fail
          refine (hn _).mono ?_
          rintro e w2 ⟨rfl, hb2⟩
          have HB2 := Hid_of (bel_up HB1.out hb2 (Nat.le_refl _))
          have ha2 := bel_row HA1.out hb2
          have hr3 := heap_alloc_last w2 (.cells #[.int .i64 yi, .int .i64 yt] 23)
          obtain ⟨W3, HW3⟩ : ∃ W3, Hid (w2.alloc (.cells #[.int .i64 yi, .int .i64 yt] 23) = W3) := ⟨_, Hid_of rfl⟩
          have HB3 : Hid (Below w2.heap.size w2 W3) := by rw [← HW3.out]; exact bel1 w2 _
          rw [HW3.out] at hr3
          have HA3 := Hid_of (bel_row ha2 HB3.out)
          have HY3 := Hid_of hr3
          have HBW := Hid_of (bel_up HB2.out HB3.out (Nat.le_refl _))
          obtain ⟨⟨a0, a1⟩, -⟩ := row2 HA3.out
          obtain ⟨⟨y0, y1⟩, -⟩ := row2 HY3.out
          clear hb2 ha2 hr3 HB2 HB3 HA1 HB1 p0 p1 hn
          go_upto_region 2 with fail
          rw [HW3.out]
          clear HW3
          go_wp2_with fail
          refine (hv _).mono ?_
          rintro e w4 ⟨rfl, hb4⟩
          have HB4 := Hid_of (bel_up HBW.out hb4 (Nat.le_refl _))
          have HA4 := Hid_of (bel_row HA3.out hb4)
          have HY4 := Hid_of (bel_row HY3.out hb4)
          obtain ⟨⟨c0, c1⟩, -⟩ := row2 HA4.out
          obtain ⟨⟨z0, z1⟩, -⟩ := row2 HY4.out
          clear hb4 a0 a1 y0 y1 HA3 HY3 HBW hv
          go_wp2_with fail
          refine (hc _).mono ?_
          rintro e w5 ⟨rfl, hb5⟩
          have HB5 := Hid_of (bel_up HB4.out hb5 (Nat.le_refl _))
          have HY5 := Hid_of (bel_row HY4.out hb5)
          obtain ⟨⟨u0, u1⟩, -⟩ := row2 HY5.out
          clear hb5 c0 c1 z0 z1 HA4 HY4 HB4 hc
          go_wp2_with fail
          refine (hvy _).mono ?_
          rintro e w6 ⟨rfl, hb6⟩
          have HB6 := Hid_of (bel_up HB5.out hb6 (Nat.le_refl _))
          clear hb6 u0 u1 HB5 hvy
          go_wp2_with fail
          refine (awake_any _).mono ?_
          rintro e w7 ⟨rfl, hb7⟩
          have HB7 := Hid_of (bel_up HB6.out hb7 (Nat.le_refl _))
          clear hb7 HB6
          go_wp2
          go_ret
          exact ⟨rfl, HB7.out⟩
end Go.Proofs.Ytkohbjpinoonmaa
