/-
  Which of two ballots is less, as the document tells it; which ballots may be; the next one; quorums.
-/
import Derived.Test.YtfjlanhekheecaaB
namespace Go.Proofs.Ytfjlanhekheecaa
open Go.RowKit
set_option linter.unusedVariables false
open M (E V)

set_option maxHeartbeats 400000 in
theorem eq30 (a b c d : Int) (w : World) : (binOp .eql 30 (.agg #[.int .i64 a, .int .i64 b]) (.agg #[.int .i64 c, .int .i64 d])).run Try.prog w = .ok (.bool (decide (a = c) && decide (b = d))) w := by
  have u3 := Try.underlying3
  have a3 := Try.isAgg3
  have z3 := Try.sizeOf3
  have hS : Try.prog.underlying 30 = some (.struct (Try.prog.fieldsOf 30)) := by kernel_rfl
  have hp : Try.prog.stoodInHeld 30 = false := by kernel_rfl
  rw [run_eql_struct, show (10000 : Nat) = 9999 + 1 from rfl, run_equalIn_agg w 9999 30 _ _ hS hp]
  simp only [Program.fieldsOf, Try.underlying30]
  by_cases h1 : a = c
  · by_cases h2 : b = d
    · subst h1 h2
      go_simp
    · subst h1
      go_simp
  · go_simp

set_option maxHeartbeats 400000 in
theorem valid_any (x : E) (w : World) : Calls Try.prog 43 #[.agg #[.int .i64 x.i, .int .i64 x.t]] w fun e w' => e = .returned (.bool (M.vld x)) ∧ Below w.heap.size w w' := by
  obtain ⟨i, t⟩ := x
  simp only
  have HB := Hid_of (bel1 w (.cells #[.int .i64 i, .int .i64 t] 30))
  have HV : Hid (M.vld ⟨i, t⟩ = (decide (0 ≤ i) && decide (i ≤ 2147483647) && decide (0 ≤ t) && decide (t ≤ 6))) := rfl
  rw [HV.out]
  clear HV
  by_cases h0 : 0 ≤ i
  · have dh0 : decide (0 ≤ i) = true := decide_eq_true h0
    by_cases h1 : i ≤ 2147483647
    · have dh1 : decide (i ≤ 2147483647) = true := decide_eq_true h1
      by_cases h2 : 0 ≤ t
      · have dh2 : decide (0 ≤ t) = true := decide_eq_true h2
        by_cases h3 : t ≤ 6
        · have dh3 : decide (t ≤ 6) = true := decide_eq_true h3
          have eh0 : decide (0 ≤ i) = true := decide_eq_true (by omega)
          have eh1 : decide (i ≤ 2147483647) = true := decide_eq_true (by omega)
          have eh2 : decide (0 ≤ t) = true := decide_eq_true (by omega)
          have eh3 : decide (t ≤ 6) = true := decide_eq_true (by omega)
          rw [eh0, eh1, eh2, eh3]
          clear eh0 eh1 eh2 eh3 h0 h1 h2 h3
          go_enter Try.func43, Try.ntmps43
          go_wp2
          go_ret
          exact ⟨rfl, HB.out⟩
        · have dh3 : decide (t ≤ 6) = false := decide_eq_false h3
          have eh0 : decide (0 ≤ i) = true := decide_eq_true (by omega)
          have eh1 : decide (i ≤ 2147483647) = true := decide_eq_true (by omega)
          have eh2 : decide (0 ≤ t) = true := decide_eq_true (by omega)
          have eh3 : decide (t ≤ 6) = false := decide_eq_false (by omega)
          rw [eh0, eh1, eh2, eh3]
          clear eh0 eh1 eh2 eh3 h0 h1 h2 h3
          go_enter Try.func43, Try.ntmps43
          go_wp2
          go_ret
          exact ⟨rfl, HB.out⟩
      · have dh2 : decide (0 ≤ t) = false := decide_eq_false h2
        have eh0 : decide (0 ≤ i) = true := decide_eq_true (by omega)
        have eh1 : decide (i ≤ 2147483647) = true := decide_eq_true (by omega)
        have eh2 : decide (0 ≤ t) = false := decide_eq_false (by omega)
        rw [eh0, eh1, eh2]
        clear eh0 eh1 eh2 h0 h1 h2
        go_enter Try.func43, Try.ntmps43
        go_wp2
        go_ret
        exact ⟨rfl, HB.out⟩
    · have dh1 : decide (i ≤ 2147483647) = false := decide_eq_false h1
      have eh0 : decide (0 ≤ i) = true := decide_eq_true (by omega)
      have eh1 : decide (i ≤ 2147483647) = false := decide_eq_false (by omega)
      rw [eh0, eh1]
      clear eh0 eh1 h0 h1
      go_enter Try.func43, Try.ntmps43
      go_wp2
      go_ret
      exact ⟨rfl, HB.out⟩
  · have dh0 : decide (0 ≤ i) = false := decide_eq_false h0
    have eh0 : decide (0 ≤ i) = false := decide_eq_false (by omega)
    rw [eh0]
    clear eh0 h0
    go_enter Try.func43, Try.ntmps43
    go_wp2
    go_ret
    exact ⟨rfl, HB.out⟩
set_option maxHeartbeats 400000 in
theorem rvalid_any (x : E) (w : World) : Calls Try.prog 14 #[.agg #[.int .i64 x.i, .int .i64 x.t]] w fun e w' => e = .returned (.bool (M.vld x)) ∧ Below w.heap.size w w' := by
  obtain ⟨i, t⟩ := x
  simp only
  have HB := Hid_of (bel1 w (.cells #[.int .i64 i, .int .i64 t] 30))
  have HV : Hid (M.vld ⟨i, t⟩ = (decide (0 ≤ i) && decide (i ≤ 2147483647) && decide (0 ≤ t) && decide (t ≤ 6))) := rfl
  rw [HV.out]
  clear HV
  by_cases h0 : 0 ≤ i
  · have dh0 : decide (0 ≤ i) = true := decide_eq_true h0
    by_cases h1 : i < 2147483648
    · have dh1 : decide (i < 2147483648) = true := decide_eq_true h1
      by_cases h2 : 0 ≤ t
      · have dh2 : decide (0 ≤ t) = true := decide_eq_true h2
        by_cases h3 : t < 7
        · have dh3 : decide (t < 7) = true := decide_eq_true h3
          have eh0 : decide (0 ≤ i) = true := decide_eq_true (by omega)
          have eh1 : decide (i ≤ 2147483647) = true := decide_eq_true (by omega)
          have eh2 : decide (0 ≤ t) = true := decide_eq_true (by omega)
          have eh3 : decide (t ≤ 6) = true := decide_eq_true (by omega)
          rw [eh0, eh1, eh2, eh3]
          clear eh0 eh1 eh2 eh3 h0 h1 h2 h3
          go_enter Try.func14, Try.ntmps14
          go_wp2
          go_ret
          exact ⟨rfl, HB.out⟩
        · have dh3 : decide (t < 7) = false := decide_eq_false h3
          have eh0 : decide (0 ≤ i) = true := decide_eq_true (by omega)
          have eh1 : decide (i ≤ 2147483647) = true := decide_eq_true (by omega)
          have eh2 : decide (0 ≤ t) = true := decide_eq_true (by omega)
          have eh3 : decide (t ≤ 6) = false := decide_eq_false (by omega)
          rw [eh0, eh1, eh2, eh3]
          clear eh0 eh1 eh2 eh3 h0 h1 h2 h3
          go_enter Try.func14, Try.ntmps14
          go_wp2
          go_ret
          exact ⟨rfl, HB.out⟩
      · have dh2 : decide (0 ≤ t) = false := decide_eq_false h2
        have eh0 : decide (0 ≤ i) = true := decide_eq_true (by omega)
        have eh1 : decide (i ≤ 2147483647) = true := decide_eq_true (by omega)
        have eh2 : decide (0 ≤ t) = false := decide_eq_false (by omega)
        rw [eh0, eh1, eh2]
        clear eh0 eh1 eh2 h0 h1 h2
        go_enter Try.func14, Try.ntmps14
        go_wp2
        go_ret
        exact ⟨rfl, HB.out⟩
    · have dh1 : decide (i < 2147483648) = false := decide_eq_false h1
      have eh0 : decide (0 ≤ i) = true := decide_eq_true (by omega)
      have eh1 : decide (i ≤ 2147483647) = false := decide_eq_false (by omega)
      rw [eh0, eh1]
      clear eh0 eh1 h0 h1
      go_enter Try.func14, Try.ntmps14
      go_wp2
      go_ret
      exact ⟨rfl, HB.out⟩
  · have dh0 : decide (0 ≤ i) = false := decide_eq_false h0
    have eh0 : decide (0 ≤ i) = false := decide_eq_false (by omega)
    rw [eh0]
    clear eh0 h0
    go_enter Try.func14, Try.ntmps14
    go_wp2
    go_ret
    exact ⟨rfl, HB.out⟩
set_option maxHeartbeats 400000 in
theorem quorum_any (n : Int) (w : World) : Calls Try.prog 77 #[.int .i64 n] w fun e w' => e = .returned (.int .i64 (M.quo n)) ∧ w' = w := by
  by_cases h0 : n < 1
  · have HQ : Hid (M.quo n = 0) := Hid_of (by unfold M.quo; rw [if_pos (.inl h0)])
    have d0 : decide (n < 1) = true := decide_eq_true h0
    rw [HQ.out]
    clear HQ h0
    go_enter Try.func77, Try.ntmps77
    go_wp2
    go_ret
    exact ⟨rfl, rfl⟩
  · have d0 : decide (n < 1) = false := decide_eq_false h0
    by_cases h1 : 7 < n
    · have HQ : Hid (M.quo n = 0) := Hid_of (by unfold M.quo; rw [if_pos (.inr h1)])
      have d1 : decide (7 < n) = true := decide_eq_true h1
      rw [HQ.out]
      clear HQ h0 h1
      go_enter Try.func77, Try.ntmps77
      go_wp2
      go_ret
      exact ⟨rfl, rfl⟩
    · have d1 : decide (7 < n) = false := decide_eq_false h1
      have HQ : Hid (M.quo n = n / 2 + 1) := Hid_of (by unfold M.quo; rw [if_neg (by omega)])
      rw [HQ.out]
      clear HQ
      obtain rfl | rfl | rfl | rfl | rfl | rfl | rfl : n = 1 ∨ n = 2 ∨ n = 3 ∨ n = 4 ∨ n = 5 ∨ n = 6 ∨ n = 7 := by omega
      all_goals
        clear h0 h1 d0 d1
        go_enter Try.func77, Try.ntmps77
        go_wp2
        go_ret
        exact ⟨rfl, rfl⟩
set_option maxHeartbeats 400000 in
theorem rquorum_any (n : Int) (w : World) : Calls Try.prog 13 #[.int .i64 n] w fun e w' => e = .returned (.int .i64 (M.quo n)) ∧ w' = w := by
  by_cases h0 : n < 1
  · have HQ : Hid (M.quo n = 0) := Hid_of (by unfold M.quo; rw [if_pos (.inl h0)])
    have d0 : decide (n < 1) = true := decide_eq_true h0
    rw [HQ.out]
    clear HQ h0
    go_enter Try.func13, Try.ntmps13
    go_wp2
    go_ret
    exact ⟨rfl, rfl⟩
  · have d0 : decide (n < 1) = false := decide_eq_false h0
    by_cases h1 : 7 < n
    · have HQ : Hid (M.quo n = 0) := Hid_of (by unfold M.quo; rw [if_pos (.inr h1)])
      have d1 : decide (7 < n) = true := decide_eq_true h1
      rw [HQ.out]
      clear HQ h0 h1
      go_enter Try.func13, Try.ntmps13
      go_wp2
      go_ret
      exact ⟨rfl, rfl⟩
    · have d1 : decide (7 < n) = false := decide_eq_false h1
      have HQ : Hid (M.quo n = n / 2 + 1) := Hid_of (by unfold M.quo; rw [if_neg (by omega)])
      rw [HQ.out]
      clear HQ
      obtain rfl | rfl | rfl | rfl | rfl | rfl | rfl : n = 1 ∨ n = 2 ∨ n = 3 ∨ n = 4 ∨ n = 5 ∨ n = 6 ∨ n = 7 := by omega
      all_goals
        clear h0 h1 d0 d1
        go_enter Try.func13, Try.ntmps13
        go_wp2
        go_ret
        exact ⟨rfl, rfl⟩
theorem f47_res : Try.f47.results = #[.cell 4 30] := rfl
set_option maxHeartbeats 400000 in
theorem next_any (x : E) (n : Int) (w : World) : Calls Try.prog 47 #[.agg #[.int .i64 x.i, .int .i64 x.t], .int .i64 n] w fun e w' => e = .returned (.agg #[.int .i64 (M.nxt x n).i, .int .i64 (M.nxt x n).t]) ∧ Below w.heap.size w w' := by
  obtain ⟨i, t⟩ := x
  simp only
  have HB := Hid_of (fun a b => bel_up (bel1 w (.cells #[.int .i64 i, .int .i64 t] 30)) (bel1 _ (.cells #[a, b] 30)) (Nat.le_refl _))
  by_cases h0 : i < 0
  · have HQ : Hid (M.nxt ⟨i, t⟩ n = ⟨0, 0⟩) := Hid_of (by unfold M.nxt; rw [if_pos (.inl h0)])
    have d0 : decide (i < 0) = true := decide_eq_true h0
    rw [HQ.out]
    clear HQ h0
    go_enter Try.func47, Try.ntmps47
    go_wp2
    refine bodyPost_ret (v := .agg #[.int .i64 0, .int .i64 0]) ?_ rfl ⟨rfl, HB.out _ _⟩
    exact results_cell_row f47_res _ _ (w.heap.size + 1) 30 _ (0, 0) _ rfl (heap_alloc2_new w _ _) Try.underlying30 rfl Try.size30
  · have d0 : decide (i < 0) = false := decide_eq_false h0
    by_cases h1 : 2147483647 ≤ i
    · have HQ : Hid (M.nxt ⟨i, t⟩ n = ⟨0, 0⟩) := Hid_of (by unfold M.nxt; rw [if_pos (.inr h1)])
      have d1 : decide (2147483647 ≤ i) = true := decide_eq_true h1
      rw [HQ.out]
      clear HQ h0 h1
      go_enter Try.func47, Try.ntmps47
      go_wp2
      refine bodyPost_ret (v := .agg #[.int .i64 0, .int .i64 0]) ?_ rfl ⟨rfl, HB.out _ _⟩
      exact results_cell_row f47_res _ _ (w.heap.size + 1) 30 _ (0, 0) _ rfl (heap_alloc2_new w _ _) Try.underlying30 rfl Try.size30
    · have d1 : decide (2147483647 ≤ i) = false := decide_eq_false h1
      have HQ : Hid (M.nxt ⟨i, t⟩ n = ⟨i + 1, M.nod n⟩) := Hid_of (by unfold M.nxt; rw [if_neg (by simp only; omega)])
      have hw : IntKind.i64.wrap (i + 1) = i + 1 := by rw [IntKind.wrap_i64]; omega
      rw [HQ.out]
      clear HQ
      have HN : Hid (min (max n 0) 6 = M.nod n) := rfl
      clear h0 h1
      go_enter Try.func47, Try.ntmps47
      go_wp2
      rw [HN.out]
      refine bodyPost_ret (v := .agg #[.int .i64 (i + 1), .int .i64 (M.nod n)]) ?_ rfl ⟨rfl, HB.out _ _⟩
      exact results_cell_row f47_res _ _ (w.heap.size + 1) 30 _ (0, 0) _ rfl (heap_alloc2_new w _ _) Try.underlying30 rfl Try.size30
set_option maxHeartbeats 400000 in
theorem rcmp_any (x y : E) (w : World) :
    Calls Try.prog 16 #[.agg #[.int .i64 x.i, .int .i64 x.t], .agg #[.int .i64 y.i, .int .i64 y.t]] w fun e w' => e = .returned (.int .i64 (M.cmpE x y)) ∧ Below w.heap.size w w' := by
  have HC := Hid_of (M.cmpE_three x y)
  generalize M.cmpE x y = r at *
  obtain ⟨a, b⟩ := x
  obtain ⟨c, d⟩ := y
  simp only at HC ⊢
  have HB := Hid_of (bel_up (bel1 w (.cells #[.int .i64 a, .int .i64 b] 30)) (bel1 _ (.cells #[.int .i64 c, .int .i64 d] 30)) (Nat.le_refl _))
  have he := eq30 a b c d
  rcases HC.out with ⟨h, rfl⟩ | ⟨h, rfl⟩ | ⟨h, rfl⟩
  · by_cases h0 : a < c
    · have d0 : decide (a < c) = true := decide_eq_true h0
      clear h HC h0
      go_enter Try.func16, Try.ntmps16
      go_wp2
      go_ret
      exact ⟨rfl, HB.out⟩
    · have d0 : decide (a < c) = false := decide_eq_false h0
      obtain rfl : a = c := by omega
      have d1 : decide (b < d) = true := decide_eq_true (by omega)
      clear h HC h0
      go_enter Try.func16, Try.ntmps16
      go_wp2
      go_ret
      exact ⟨rfl, HB.out⟩
  · obtain ⟨rfl, rfl⟩ := h
    clear HC
    go_enter Try.func16, Try.ntmps16
    go_wp2
    go_ret
    exact ⟨rfl, HB.out⟩
  · by_cases h0 : a = c
    · obtain rfl := h0
      have d1 : decide (b < d) = false := decide_eq_false (by omega)
      have d2 : decide (b = d) = false := decide_eq_false (by omega)
      clear h HC
      go_enter Try.func16, Try.ntmps16
      go_wp2
      go_ret
      exact ⟨rfl, HB.out⟩
    · have d0 : decide (a < c) = false := decide_eq_false (by omega)
      have d2 : decide (a = c) = false := decide_eq_false h0
      have d3 : (a == c) = false := by simpa using h0
      clear h HC
      go_enter Try.func16, Try.ntmps16
      go_wp2
      go_ret
      exact ⟨rfl, HB.out⟩
end Go.Proofs.Ytfjlanhekheecaa
