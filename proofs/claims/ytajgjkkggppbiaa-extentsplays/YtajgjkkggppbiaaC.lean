/-
  Pieces by value: whether one may be put; whether two are one.
-/
import Derived.Test.YtajgjkkggppbiaaB
namespace Go.Proofs.Ytajgjkkggppbiaa
open Go.RowKit
set_option linter.unusedVariables false
open M (E)

/-- Whether a piece may be put. -/
def prp (e : E) : Bool := decide (0 ≤ e.a) && decide (1 ≤ e.n) && decide (e.n ≤ 16384 - e.a) && (decide (0 ≤ e.d) && decide (0 ≤ e.f) && decide (e.f ≤ 1073741824))
set_option maxHeartbeats 1000000 in
theorem proper_any (a n d f : Int) (w : World) (ha : a ≤ 9223372036854775807) :
    Calls Try.prog 33 #[.agg #[.int .i64 a, .int .i64 n, .int .i64 d, .int .i64 f]] w fun x w' => x = .returned (.bool (prp ⟨a, n, d, f⟩)) ∧ Below w.heap.size w w' := by
  have HB : Hid (Below w.heap.size w (w.alloc (.cells #[.int .i64 a, .int .i64 n, .int .i64 d, .int .i64 f] 32))) := bel1 w _
  have HP : Hid (prp ⟨a, n, d, f⟩ = (decide (0 ≤ a) && decide (1 ≤ n) && decide (n ≤ 16384 - a) && (decide (0 ≤ d) && decide (0 ≤ f) && decide (f ≤ 1073741824)))) := rfl
  by_cases h1 : 0 ≤ a
  · have d1 : decide (0 ≤ a) = true := by simpa using h1
    have hw : IntKind.i64.wrap (16384 - a) = 16384 - a := by rw [IntKind.wrap_i64]; omega
    rw [d1] at HP
    clear h1 ha
    cases d2 : decide (1 ≤ n)
    · rw [d2] at HP
      go_enter Try.func33, Try.ntmps33
      go_wp2
      go_ret
      exact ⟨by rw [HP.out]; rfl, HB.out⟩
    rw [d2] at HP
    cases d3 : decide (n ≤ 16384 - a)
    · rw [d3] at HP
      go_enter Try.func33, Try.ntmps33
      go_wp2
      go_ret
      exact ⟨by rw [HP.out]; rfl, HB.out⟩
    rw [d3] at HP
    cases d4 : decide (0 ≤ d)
    · rw [d4] at HP
      go_enter Try.func33, Try.ntmps33
      go_wp2
      go_ret
      exact ⟨by rw [HP.out]; rfl, HB.out⟩
    rw [d4] at HP
    cases d5 : decide (0 ≤ f)
    · rw [d5] at HP
      go_enter Try.func33, Try.ntmps33
      go_wp2
      go_ret
      exact ⟨by rw [HP.out]; rfl, HB.out⟩
    rw [d5] at HP
    cases d6 : decide (f ≤ 1073741824)
    · rw [d6] at HP
      go_enter Try.func33, Try.ntmps33
      go_wp2
      go_ret
      exact ⟨by rw [HP.out]; rfl, HB.out⟩
    rw [d6] at HP
    go_enter Try.func33, Try.ntmps33
    go_wp2
    go_ret
    exact ⟨by rw [HP.out]; rfl, HB.out⟩
  · have d1 : decide (0 ≤ a) = false := by simpa using h1
    rw [d1] at HP
    clear h1 ha
    go_enter Try.func33, Try.ntmps33
    go_wp2
    go_ret
    exact ⟨by rw [HP.out]; rfl, HB.out⟩
end Go.Proofs.Ytajgjkkggppbiaa
