/-
  Small functions over ints: is one a number, a copy of a row, where one stands.
-/
import Derived.Test.YtacfndfkoiifhaaLA
import Derived.Test.YtacfndfkoiifhaaMC
import Derived.Deep.OwnRows
namespace Go.Proofs.Ytacfndfkoiifhaa
open Go.RowKit
set_option linter.unusedVariables false
open Mb (S)
abbrev Sl := Mb.Sl (Option Addr)

theorem isId_any (n : Int) (w : World) : Calls Try.prog 44 #[.int .i64 n] w fun e w' => e = .returned (.bool (decide (0 ≤ n ∧ n ≤ 63))) ∧ w' = w := by
  by_cases h0 : 0 ≤ n
  · have d0 : decide (0 ≤ n) = true := decide_eq_true h0
    by_cases h1 : n ≤ 63
    · have d1 : decide (n < 64) = true := decide_eq_true (by omega)
      rw [decide_eq_true (show 0 ≤ n ∧ n ≤ 63 from ⟨h0, h1⟩)]
      go_enter Try.func44, Try.ntmps44
      go_wp2
      go_ret
      exact ⟨rfl, rfl⟩
    · have d1 : decide (n < 64) = false := decide_eq_false (by omega)
      rw [decide_eq_false (show ¬ (0 ≤ n ∧ n ≤ 63) from fun h => h1 h.2)]
      go_enter Try.func44, Try.ntmps44
      go_wp2
      go_ret
      exact ⟨rfl, rfl⟩
  · have d0 : decide (0 ≤ n) = false := decide_eq_false h0
    rw [decide_eq_false (show ¬ (0 ≤ n ∧ n ≤ 63) from fun h => h0 h.1)]
    go_enter Try.func44, Try.ntmps44
    go_wp2
    go_ret
    exact ⟨rfl, rfl⟩

theorem sz3 : (Try.prog.info? 3).map (·.size) = some 1 := by kernel_rfl
/-- A row that is known whole is one's own. -/
theorem own_row {w : World} {base g : Nat} {l : List Int} (h : w.heap[g]? = some (.cells (il.cells l).toArray 3 (0, 0))) (hb : base ≤ g) (hl : l.length ≤ 1000000) : OwnL il 3 w base (.slice (some ⟨g, 0, none⟩) l.length l.length) l := by
  have e : (il.cells l).length = l.length * 1 := il.clen l
  refine ⟨e, .inr ⟨g, l.length, _, rfl, hb, h, Nat.le_refl _, by unfold maxLen; omega, by show (il.cells l).toArray.size = l.length * 1; simpa using e, ?_⟩⟩
  exact List.take_of_length_le (by show (il.cells l).length ≤ l.length * 1; omega)
theorem made_ints (n : Nat) : (madeCells #[Value.int .i64 0] n).toList.length = n := by rw [Array.length_toList, size_madeCells]
set_option maxRecDepth 100000 in
set_option maxHeartbeats 400000 in
theorem copied_any (a : Option Addr) (cap : Nat) (l : List Int) (w : World) (hl : l.length ≤ 1000000) (h : AtL il w a l) :
    Calls Try.prog 29 #[.slice a l.length cap] w fun e w' => ∃ v, e = .returned v ∧ OwnL il 3 w' w.heap.size v l ∧ v = .slice (some ⟨w.heap.size, 0, none⟩) l.length l.length ∧ Below w.heap.size w w' := by
  obtain ⟨Z, hX, hlen⟩ : ∃ Z : List Value, Hid (madeCells #[Value.int .i64 0] l.length = Z.toArray) ∧ Hid (Z.length = l.length) := ⟨(madeCells #[Value.int .i64 0] l.length).toList, Hid_of (by simp), Hid_of (made_ints l.length)⟩
  have HR := Hid_of (heap_alloc_last w (.cells Z.toArray 3))
  have HB := Hid_of (bel1 w (.cells Z.toArray 3))
  have HS : Hid (0 < (il.cells l).length → ∃ ad, a = some ad ∧ ∀ j v, (il.cells l)[j]? = some v → (w.alloc (.cells Z.toArray 3)).cell? (ad.add j) = some v) := by
    intro hp
    have hp' : 0 < l.length := by rw [il.clen] at hp; simpa [il] using hp
    have hs := h.keep (bel1 w (.cells Z.toArray 3))
    obtain ⟨b, off, rfl, _⟩ := hs 0 hp'
    exact ⟨_, rfl, hs.cells⟩
  have hc : Hid ((il.cells l).length = l.length) := Hid_of (by rw [il.clen]; simp [il])
  have HE : Hid (∀ w', Hid (w'.heap[w.heap.size]? = some (.cells (splice Z 0 (il.cells l)).toArray 3 (0, 0))) → OwnL il 3 w' w.heap.size (.slice (some ⟨w.heap.size, 0, none⟩) l.length l.length) l) := by
    intro w' hg
    refine own_row (hg.out.trans ?_) (Nat.le_refl _) hl
    have := hc.out
    have := hlen.out
    simp [splice, *]
  clear h
  go_enter Try.func29, Try.ntmps29
  go_wp2_with (first
    | (at_make; refine wpList_make_row _ rfl (.tmp 5) (.tmp 5) 22 rfl 3 Try.t3 (.int .i64 0) Try.underlying22 hi3 rfl rfl rfl .i64 .i64 l.length rfl rfl (by show 8 * _ ≤ _; omega) (by omega) ?_; rw [hX.out])
    | (refine wpList_copy_splice rfl _ _ 22 22 rfl 3 Try.underlying22 sz3 _ _ _ _ _ _ rfl rfl w.heap.size 0 Z 3 HR.out (il.cells l) (by rw [hc.out]; simp) (fun hp => ⟨rfl, HS.out hp⟩) (by rw [hc.out, hlen.out]; simp) (il.ones l) w.heap.size w HB.out (Nat.le_refl _) ?_; intro w' hg hb'))
  go_ret
  exact ⟨_, rfl, HE.out _ hg, rfl, hb'⟩
end Go.Proofs.Ytacfndfkoiifhaa
