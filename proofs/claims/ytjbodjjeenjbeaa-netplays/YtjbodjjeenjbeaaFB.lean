/-
  Which messages may be sent, as the document has it.
-/
import Derived.Test.YtjbodjjeenjbeaaFA
namespace Go.Proofs.Ytjbodjjeenjbeaa
open Go.RowKit
set_option linter.unusedVariables false

theorem fits_no (k f t i : Int) (n : Nat) (h : ¬ ((1 ≤ k ∧ k ≤ 99) ∧ (0 ≤ f ∧ f ≤ 63) ∧ (0 ≤ t ∧ t ≤ 63) ∧ (0 ≤ i ∧ i ≤ 2147483647))) : Msg.chk k f t i n = 1 := by
  have : Msg.fits k f t i = false := by
    cases e : Msg.fits k f t i with
    | false => rfl
    | true => exact absurd ((Msg.fits_iff k f t i).1 e) h
  unfold Msg.chk
  rw [this]; rfl
theorem fits_yes (k f t i : Int) (h : (1 ≤ k ∧ k ≤ 99) ∧ (0 ≤ f ∧ f ≤ 63) ∧ (0 ≤ t ∧ t ≤ 63) ∧ (0 ≤ i ∧ i ≤ 2147483647)) : Msg.fits k f t i = true := (Msg.fits_iff k f t i).2 h
set_option maxRecDepth 100000 in
set_option maxHeartbeats 400000 in
theorem refCheck_any (k f t i : Int) (b : ByteArray) (w : World) (hb : b.size ≤ maxLen) :
    Calls Try.prog 41 #[.agg #[.int .i64 k, .int .i64 f, .int .i64 t, .int .i64 i, .string b]] w fun e w' => e = .returned (.int .i64 (Msg.chk k f t i b.size)) ∧ Below w.heap.size w w' := by
  have HB := Hid_of (bel1 w (.cells #[.int .i64 k, .int .i64 f, .int .i64 t, .int .i64 i, .string b] 33))
  by_cases h0 : k < 1
  · have HC : Hid (Msg.chk k f t i b.size = 1) := Hid_of (fits_no k f t i b.size (by omega))
    have d0 : decide (k < 1) = true := decide_eq_true h0
    clear h0
    go_enter Try.func41, Try.ntmps41
    go_wp2
    go_ret
    rw [HC.out]
    exact ⟨rfl, HB.out⟩
  by_cases h1 : (99 : Int) < k
  · have HC : Hid (Msg.chk k f t i b.size = 1) := Hid_of (fits_no k f t i b.size (by omega))
    have d0 : decide (k < 1) = false := decide_eq_false h0
    have d1 : decide ((99 : Int) < k) = true := decide_eq_true h1
    clear h0 h1
    go_enter Try.func41, Try.ntmps41
    go_wp2
    go_ret
    rw [HC.out]
    exact ⟨rfl, HB.out⟩
  by_cases h2 : f < 0
  · have HC : Hid (Msg.chk k f t i b.size = 1) := Hid_of (fits_no k f t i b.size (by omega))
    have d0 : decide (k < 1) = false := decide_eq_false h0
    have d1 : decide ((99 : Int) < k) = false := decide_eq_false h1
    have d2 : decide (f < 0) = true := decide_eq_true h2
    clear h0 h1 h2
    go_enter Try.func41, Try.ntmps41
    go_wp2
    go_ret
    rw [HC.out]
    exact ⟨rfl, HB.out⟩
  by_cases h3 : (63 : Int) < f
  · have HC : Hid (Msg.chk k f t i b.size = 1) := Hid_of (fits_no k f t i b.size (by omega))
    have d0 : decide (k < 1) = false := decide_eq_false h0
    have d1 : decide ((99 : Int) < k) = false := decide_eq_false h1
    have d2 : decide (f < 0) = false := decide_eq_false h2
    have d3 : decide ((63 : Int) < f) = true := decide_eq_true h3
    clear h0 h1 h2 h3
    go_enter Try.func41, Try.ntmps41
    go_wp2
    go_ret
    rw [HC.out]
    exact ⟨rfl, HB.out⟩
  by_cases h4 : t < 0
  · have HC : Hid (Msg.chk k f t i b.size = 1) := Hid_of (fits_no k f t i b.size (by omega))
    have d0 : decide (k < 1) = false := decide_eq_false h0
    have d1 : decide ((99 : Int) < k) = false := decide_eq_false h1
    have d2 : decide (f < 0) = false := decide_eq_false h2
    have d3 : decide ((63 : Int) < f) = false := decide_eq_false h3
    have d4 : decide (t < 0) = true := decide_eq_true h4
    clear h0 h1 h2 h3 h4
    go_enter Try.func41, Try.ntmps41
    go_wp2
    go_ret
    rw [HC.out]
    exact ⟨rfl, HB.out⟩
  by_cases h5 : (63 : Int) < t
  · have HC : Hid (Msg.chk k f t i b.size = 1) := Hid_of (fits_no k f t i b.size (by omega))
    have d0 : decide (k < 1) = false := decide_eq_false h0
    have d1 : decide ((99 : Int) < k) = false := decide_eq_false h1
    have d2 : decide (f < 0) = false := decide_eq_false h2
    have d3 : decide ((63 : Int) < f) = false := decide_eq_false h3
    have d4 : decide (t < 0) = false := decide_eq_false h4
    have d5 : decide ((63 : Int) < t) = true := decide_eq_true h5
    clear h0 h1 h2 h3 h4 h5
    go_enter Try.func41, Try.ntmps41
    go_wp2
    go_ret
    rw [HC.out]
    exact ⟨rfl, HB.out⟩
  by_cases h6 : i < 0
  · have HC : Hid (Msg.chk k f t i b.size = 1) := Hid_of (fits_no k f t i b.size (by omega))
    have d0 : decide (k < 1) = false := decide_eq_false h0
    have d1 : decide ((99 : Int) < k) = false := decide_eq_false h1
    have d2 : decide (f < 0) = false := decide_eq_false h2
    have d3 : decide ((63 : Int) < f) = false := decide_eq_false h3
    have d4 : decide (t < 0) = false := decide_eq_false h4
    have d5 : decide ((63 : Int) < t) = false := decide_eq_false h5
    have d6 : decide (i < 0) = true := decide_eq_true h6
    clear h0 h1 h2 h3 h4 h5 h6
    go_enter Try.func41, Try.ntmps41
    go_wp2
    go_ret
    rw [HC.out]
    exact ⟨rfl, HB.out⟩
  by_cases h7 : (2147483648 : Int) ≤ i
  · have HC : Hid (Msg.chk k f t i b.size = 1) := Hid_of (fits_no k f t i b.size (by omega))
    have d0 : decide (k < 1) = false := decide_eq_false h0
    have d1 : decide ((99 : Int) < k) = false := decide_eq_false h1
    have d2 : decide (f < 0) = false := decide_eq_false h2
    have d3 : decide ((63 : Int) < f) = false := decide_eq_false h3
    have d4 : decide (t < 0) = false := decide_eq_false h4
    have d5 : decide ((63 : Int) < t) = false := decide_eq_false h5
    have d6 : decide (i < 0) = false := decide_eq_false h6
    have d7 : decide ((2147483648 : Int) ≤ i) = true := decide_eq_true h7
    clear h0 h1 h2 h3 h4 h5 h6 h7
    go_enter Try.func41, Try.ntmps41
    go_wp2
    go_ret
    rw [HC.out]
    exact ⟨rfl, HB.out⟩
  have hf := fits_yes k f t i (by omega)
  have d0 : decide (k < 1) = false := decide_eq_false h0
  have d1 : decide ((99 : Int) < k) = false := decide_eq_false h1
  have d2 : decide (f < 0) = false := decide_eq_false h2
  have d3 : decide ((63 : Int) < f) = false := decide_eq_false h3
  have d4 : decide (t < 0) = false := decide_eq_false h4
  have d5 : decide ((63 : Int) < t) = false := decide_eq_false h5
  have d6 : decide (i < 0) = false := decide_eq_false h6
  have d7 : decide ((2147483648 : Int) ≤ i) = false := decide_eq_false h7
  clear h0 h1 h2 h3 h4 h5 h6 h7
  by_cases h9 : 4096 < b.size
  · have HC : Hid (Msg.chk k f t i b.size = 2) := Hid_of (show Msg.chk k f t i b.size = 2 by unfold Msg.chk; rw [hf, decide_eq_true h9]; rfl)
    have d9 : decide ((4096 : Int) < (b.size : Int)) = true := by simp; omega
    clear hf
    go_enter Try.func41, Try.ntmps41
    go_wp2
    go_ret
    rw [HC.out]
    exact ⟨rfl, HB.out⟩
  · have HC : Hid (Msg.chk k f t i b.size = 0) := Hid_of (show Msg.chk k f t i b.size = 0 by unfold Msg.chk; rw [hf, decide_eq_false h9]; rfl)
    have d9 : decide ((4096 : Int) < (b.size : Int)) = false := by simp; omega
    clear hf
    go_enter Try.func41, Try.ntmps41
    go_wp2
    go_ret
    rw [HC.out]
    exact ⟨rfl, HB.out⟩
end Go.Proofs.Ytjbodjjeenjbeaa
