/-
  Small numbers as floats, and as complex numbers; two votes held against each other.
-/
import Derived.Test.YtfjlanhekheecaaLLA
import Derived.Laws.ComplexArith
namespace Go.Proofs.Ytfjlanhekheecaa.Nl
open Go.RowKit Go.Maps
set_option linter.unusedVariables false
open Go.Proofs.Ytfjlanhekheecaa.M (E V)
open Go.Proofs.Ytfjlanhekheecaa.Nl.M (W fup)

/-- A small number as a float. -/
def ff (k : Nat) : Nat := floatOfInt .f64 (k : Int)
theorem ff_conv (k : Nat) (w : World) : (convert 3 133 (.int .i64 (k : Int))).run Try.prog w = .ok (.float .f64 (ff k)) w := run_convert_int_float w 3 133 .i64 .f64 k (by kernel_rfl) (by kernel_rfl)
theorem all_add1 : ((List.range 8).all fun a => (List.range 8).all fun b => decide (cSumBits .add .f64 (ff a) (ff b) 4607182418800017408 0 = some (ff (a + 1), ff b))) = true := by kernel_rfl
theorem all_add2 : ((List.range 8).all fun a => (List.range 8).all fun b => decide (cSumBits .add .f64 (ff a) (ff b) 0 4607182418800017408 = some (ff a, ff (b + 1)))) = true := by kernel_rfl
theorem all_sub : ((List.range 8).all fun a => (List.range 8).all fun b => decide (a < b ∨ floatBits .sub .f64 (ff a) (ff b) = some (ff (a - b)))) = true := by kernel_rfl
theorem all_cmp : ((List.range 9).all fun a => (List.range 9).all fun b => decide ((FloatKind.f64.format.order (ff a) (ff b) == some .gt) = decide (b < a) ∧ ((FloatKind.f64.format.order (ff a) (ff b) == some .gt) || (FloatKind.f64.format.order (ff a) (ff b) == some .eq)) = decide (b ≤ a))) = true := by kernel_rfl
theorem all_get {n : Nat} {p : Nat → Nat → Bool} (h : ((List.range n).all fun a => (List.range n).all fun b => p a b) = true) {a b : Nat} (ha : a < n) (hb : b < n) : p a b = true := by
  rw [List.all_eq_true] at h
  have h1 := h a (List.mem_range.2 ha)
  rw [List.all_eq_true] at h1
  exact h1 b (List.mem_range.2 hb)
theorem add1 {a b : Nat} (ha : a < 8) (hb : b < 8) (w : World) : (binOp .add 134 (.complex .f64 (ff a) (ff b)) (.complex .f64 4607182418800017408 0)).run Try.prog w = .ok (.complex .f64 (ff (a + 1)) (ff b)) w :=
  run_complex_sum w .add (.inl rfl) _ _ _ _ _ _ _ _ (of_decide_eq_true (all_get (p := fun a b => decide (cSumBits .add .f64 (ff a) (ff b) 4607182418800017408 0 = some (ff (a + 1), ff b))) all_add1 ha hb))
theorem add2 {a b : Nat} (ha : a < 8) (hb : b < 8) (w : World) : (binOp .add 134 (.complex .f64 (ff a) (ff b)) (.complex .f64 0 4607182418800017408)).run Try.prog w = .ok (.complex .f64 (ff a) (ff (b + 1))) w :=
  run_complex_sum w .add (.inl rfl) _ _ _ _ _ _ _ _ (of_decide_eq_true (all_get (p := fun a b => decide (cSumBits .add .f64 (ff a) (ff b) 0 4607182418800017408 = some (ff a, ff (b + 1)))) all_add2 ha hb))
theorem fsub {a b : Nat} (ha : a < 8) (hb : b ≤ a) (w : World) : (binOp .sub 133 (.float .f64 (ff a)) (.float .f64 (ff b))).run Try.prog w = .ok (.float .f64 (ff (a - b))) w := by
  have h := of_decide_eq_true (all_get (p := fun a b => decide (a < b ∨ floatBits .sub .f64 (ff a) (ff b) = some (ff (a - b)))) all_sub ha (show b < 8 by omega))
  rcases h with h | h
  · omega
  · exact run_float_arith w .sub _ _ _ _ _ h
theorem fcmpo {a b : Nat} (ha : a < 9) (hb : b < 9) : (FloatKind.f64.format.order (ff a) (ff b) == some .gt) = decide (b < a) ∧ ((FloatKind.f64.format.order (ff a) (ff b) == some .gt) || (FloatKind.f64.format.order (ff a) (ff b) == some .eq)) = decide (b ≤ a) :=
  of_decide_eq_true (all_get (p := fun a b => decide ((FloatKind.f64.format.order (ff a) (ff b) == some .gt) = decide (b < a) ∧ ((FloatKind.f64.format.order (ff a) (ff b) == some .gt) || (FloatKind.f64.format.order (ff a) (ff b) == some .eq)) = decide (b ≤ a))) all_cmp ha hb)
theorem ff_zero : ff 0 = 0 := by kernel_rfl
set_option maxRecDepth 100000 in
set_option maxHeartbeats 400000 in
theorem equal123 (x h : W) (w : World) : (Op.equalIn 10000 123 (wV x) (wV h)).run Try.prog w = .ok (M.wq x h) w := by
  obtain ⟨s, ⟨i, t⟩, v⟩ := x
  obtain ⟨s', ⟨i', t'⟩, v'⟩ := h
  have u3 := Try.underlying3
  have u4 := Try.underlying4
  have u9 := Try.underlying9
  have a3 := Try.isAgg3
  have a4 := Try.isAgg4
  have a9 := Try.isAgg9
  have a34 := Try.isAgg30
  have z3 := Try.sizeOf3
  have z4 := Try.sizeOf4
  have z9 := Try.sizeOf9
  have z34 := Try.sizeOf30
  have hS : Try.prog.underlying 123 = some (.struct (Try.prog.fieldsOf 123)) := by kernel_rfl
  have hp : Try.prog.stoodInHeld 123 = false := by kernel_rfl
  rw [show (10000 : Nat) = 9999 + 1 from rfl, run_equalIn_agg w 9999 123 _ _ hS hp]
  clear hS hp
  simp only [Program.fieldsOf, Try.underlying123]
  unfold M.wq
  simp only
  cases h1 : s == s' with
  | false => go_simp
  | true =>
    cases h2 : i == i' with
    | false =>
      have n2 : ¬ (i = i') := by simpa using h2
      go_simp
    | true =>
      have n2 : i = i' := by simpa using h2
      cases h3 : t == t' with
      | false =>
        have n3 : ¬ (t = t') := by simpa using h3
        go_simp
      | true =>
        have n3 : t = t' := by simpa using h3
        go_simp
        by_cases h : v.toList = v'.toList
        · simp [h]
        · simp [h]
theorem ql123 (x h : W) (w : World) : (binOp .eql 123 (wV x) (wV h)).run Try.prog w = .ok (.bool (M.wq x h)) w := by
  rw [run_eql_struct, equal123]
  rfl
end Go.Proofs.Ytfjlanhekheecaa.Nl
