/-
  Quorums: two have a node in common; the nodes are enough for one.
-/
import Derived.Test.YtkohbjpinoonmaaH
namespace Go.Proofs.Ytkohbjpinoonmaa
open Go.RowKit
set_option linter.unusedVariables false
open M (E V)

theorem quo_out {n : Int} (h : n < 1 ∨ 7 < n) : M.quo n = 0 := by unfold M.quo; rw [if_pos h]
theorem quo_in {n : Int} (h : ¬ (n < 1 ∨ 7 < n)) : n < 2 * M.quo n ∧ M.quo n ≤ n ∧ 0 ≤ M.quo n ∧ M.quo n ≤ 7 := by unfold M.quo; rw [if_neg h]; omega
set_option maxHeartbeats 400000 in
theorem quorums_walk (n : Int) (w : World) : Calls Try.prog 7 #[.int .i64 n] w fun e w' => e = .returned (.bool true) ∧ Below w.heap.size w w' := by
  have hq := quorum_any n
  by_cases h : n < 1 ∨ 7 < n
  · rw [quo_out h] at hq
    by_cases h0 : n < 1
    · have d0 : decide (n < 1) = true := decide_eq_true h0
      clear h h0
      go_enter Try.func7, Try.ntmps7
      go_wp2_with fail
      refine (hq _).mono ?_
      clear hq
      rintro e w1 ⟨rfl, rfl⟩
      go_wp2_with fail
      refine (awake_any _).mono ?_
      rintro e w2 ⟨rfl, hb2⟩
      go_wp2
      go_ret
      exact ⟨rfl, hb2⟩
    · have d0 : decide (n < 1) = false := decide_eq_false h0
      have d1 : decide (7 < n) = true := decide_eq_true (by omega)
      clear h h0
      go_enter Try.func7, Try.ntmps7
      go_wp2_with fail
      refine (hq _).mono ?_
      clear hq
      rintro e w1 ⟨rfl, rfl⟩
      go_wp2_with fail
      refine (awake_any _).mono ?_
      rintro e w2 ⟨rfl, hb2⟩
      go_wp2
      go_ret
      exact ⟨rfl, hb2⟩
  · have hi := quo_in h
    generalize M.quo n = q at *
    have d0 : decide (n < 1) = false := decide_eq_false (by omega)
    have d1 : decide (7 < n) = false := decide_eq_false (by omega)
    have hw : IntKind.i64.wrap (2 * q) = 2 * q := by rw [IntKind.wrap_i64]; omega
    have d2 : decide (n < 2 * q) = true := decide_eq_true (by omega)
    have d3 : decide (q ≤ n) = true := decide_eq_true (by omega)
    clear h
    go_enter Try.func7, Try.ntmps7
    go_wp2_with fail
    refine (hq _).mono ?_
    clear hq
    rintro e w1 ⟨rfl, rfl⟩
    go_wp2_with fail
    refine (awake_any _).mono ?_
    rintro e w2 ⟨rfl, hb2⟩
    go_wp2
    go_ret
    exact ⟨rfl, hb2⟩
end Go.Proofs.Ytkohbjpinoonmaa
