/-
  Small functions over ints: is one a number, a copy of a row, where one stands.
-/
import Derived.Test.YtgcfpihfoekllaaLA
import Derived.Test.YtgcfpihfoekllaaMC
import Derived.Deep.OwnRows
namespace Go.Proofs.Ytgcfpihfoekllaa
open Go.RowKit
set_option linter.unusedVariables false
abbrev Sl := Mb.Sl (Option Addr)

theorem isServer_any (n : Int) (w : World) : Calls Try.prog 65 #[.int .i64 n] w fun e w' => e = .returned (.bool (decide (0 ≤ n ∧ n ≤ 63))) ∧ w' = w := by
  by_cases h0 : 0 ≤ n
  · have d0 : decide (0 ≤ n) = true := decide_eq_true h0
    by_cases h1 : n ≤ 63
    · have d1 : decide (n < 64) = true := decide_eq_true (by omega)
      rw [decide_eq_true (show 0 ≤ n ∧ n ≤ 63 from ⟨h0, h1⟩)]
      go_enter Try.func65, Try.ntmps65
      go_wp2
      go_ret
      exact ⟨rfl, rfl⟩
    · have d1 : decide (n < 64) = false := decide_eq_false (by omega)
      rw [decide_eq_false (show ¬ (0 ≤ n ∧ n ≤ 63) from fun h => h1 h.2)]
      go_enter Try.func65, Try.ntmps65
      go_wp2
      go_ret
      exact ⟨rfl, rfl⟩
  · have d0 : decide (0 ≤ n) = false := decide_eq_false h0
    rw [decide_eq_false (show ¬ (0 ≤ n ∧ n ≤ 63) from fun h => h0 h.1)]
    go_enter Try.func65, Try.ntmps65
    go_wp2
    go_ret
    exact ⟨rfl, rfl⟩

theorem sz3 : (Try.prog.info? 3).map (·.size) = some 1 := by kernel_rfl
/-- A row that is known whole is one's own. -/
theorem own_row {w : World} {base g : Nat} {l : List Int} (h : w.heap[g]? = some (.cells (il.cells l).toArray 3 (0, 0))) (hb : base ≤ g) (hl : l.length ≤ 1000000) : OwnL il 3 w base (.slice (some ⟨g, 0, none⟩) l.length l.length) l := by
  have e : (il.cells l).length = l.length * 1 := il.clen l
  refine ⟨e, .inr ⟨g, l.length, _, rfl, hb, h, Nat.le_refl _, by unfold maxLen; omega, by show (il.cells l).toArray.size = l.length * 1; simpa using e, ?_⟩⟩
  exact List.take_of_length_le (by show (il.cells l).length ≤ l.length * 1; omega)
theorem made_ints (n : Nat) : (madeCells #[Value.int .i64 0] n).toList.length = n := by rw [Array.length_toList, size_madeCells]
end Go.Proofs.Ytgcfpihfoekllaa
