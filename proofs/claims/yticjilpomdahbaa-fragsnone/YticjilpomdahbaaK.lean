/-
  A device that is lost; one that is none; a sector of one byte; ints held against each other.
-/
import Derived.Test.YticjilpomdahbaaF
import Derived.Test.YticjilpomdahbaaI
namespace Go.Proofs.Yticjilpomdahbaa
open Go.RowKit
open M (ofL ofL_size ofL_of)
set_option linter.unusedVariables false

set_option maxRecDepth 100000 in
set_option maxHeartbeats 1000000 in
/-- A write that is refused. -/
theorem write_no (b n : Nat) (v1 v2 : Value) (lost : Bool) (at' : Int) (s : ByteArray) (w : World) (h : w.heap[b]? = some (.cells #[.int .i64 n, v1, v2, .bool lost] 74 (0, 0))) (hn : n ≤ 4096) (hs : s.size ≤ maxLen) (hz : M.wcode n lost at' s ≠ 0) :
    Calls Try.prog 42 #[.pointer (some ⟨b, 0, none⟩), .int .i64 at', .string s] w fun e w' => e = .returned (.int .i64 (M.wcode n lost at' s)) ∧ w' = w := by
  unfold maxLen at hs
  by_cases hm : s.size % 64 = 0
  · have hmi : (s.size : Int) % 64 = 0 := by omega
    have hmt : (s.size : Int).tmod 64 = 0 := by rw [Int.tmod_eq_emod_of_nonneg (by omega)]; exact hmi
    have hdv : (s.size : Int).tdiv 64 = ((s.size / 64 : Nat) : Int) := by rw [Int.tdiv_eq_ediv_of_nonneg (by omega)]; omega
    have hdm : (s.size : Int) / 64 = ((s.size / 64 : Nat) : Int) := by omega
    have hwc : M.wcode n lost at' s = M.refused n lost at' ((s.size / 64 : Nat) : Int) := by unfold M.wcode; simp [hm]
    obtain ⟨m, hmm⟩ : ∃ m, s.size / 64 = m := ⟨_, rfl⟩
    rw [hmm] at hdv hdm hwc
    rw [hwc] at hz ⊢
    have href := refused_any b n v1 v2 lost at' (m : Int) w h hn (by omega)
    have hz' : (M.refused n lost at' (m : Int) == 0) = false := by simpa using hz
    generalize M.refused n lost at' (m : Int) = r at *
    clear h hwc
    go_enter Try.func42, Try.ntmps42
    go_wp2_with fail
    refine href.mono ?_
    rintro e w1 ⟨rfl, rfl⟩
    clear href
    go_wp2
    go_ret
    exact ⟨rfl, rfl⟩
  · have hmt : (s.size : Int).tmod 64 ≠ 0 := by rw [Int.tmod_eq_emod_of_nonneg (by omega)]; omega
    have hmt' : ((s.size : Int).tmod 64 == 0) = false := by simpa using hmt
    have hme : ((s.size : Int) % 64 == 0) = false := by simp; omega
    have hw : M.wcode n lost at' s = 1 := by unfold M.wcode; simp [hm]
    rw [hw]
    clear h
    go_enter Try.func42, Try.ntmps42
    go_wp2
    go_ret
    exact ⟨rfl, rfl⟩
theorem ref_lost (n : Nat) (at' m : Int) : M.refused n true at' m ≠ 0 := fun h => by
  obtain ⟨h', _⟩ := M.refused_ok h
  cases h'
theorem wcode_lost (n : Nat) (at' : Int) (s : ByteArray) : M.wcode n true at' s ≠ 0 := fun h => ref_lost _ _ _ (M.wcode_ok h).2
set_option maxRecDepth 100000 in
set_option maxHeartbeats 1000000 in
theorem loose_lost (base b n : Nat) (w : World) (h : LI w base b n) : Calls Try.prog 51 #[.pointer (some ⟨b, 0, none⟩)] w fun e w' => ∃ v : Value, e = .returned v ∧ w'.ownsRow w.heap.size 3 1 v 0 (IC []) ∧ Below w.heap.size w w' := by
  obtain ⟨⟨_, _, c2, _⟩, _⟩ := row4 h.row
  have hs := sorted_any w.heap.size none 0 [] (by simp) (w.alloc (.cells #[.slice none 0 0] 72)) (AtV.nil _ _) (by
    rw [cell_of_row _ _ 0 _ _ _ (heap_alloc_last w _)]; rfl)
  clear h
  go_enter Try.func51, Try.ntmps51
  go_wp2_with fail
  refine (values_any _ none 0 0 rfl w).mono ?_
  rintro e w1 ⟨rfl, rfl⟩
  go_wp2_with fail
  refine hs.mono ?_
  rintro e w' ⟨v, rfl, h1, h2⟩
  have HQ : Hid (w'.ownsRow w.heap.size 3 1 v 0 (IC []) ∧ Below w.heap.size w w') := ⟨owns_low (by simpa [IC] using h1) (by simp), bel_up (bel1 w _) h2 (Nat.le_refl _)⟩
  clear h1 h2 hs
  go_wp2
  go_ret
  exact ⟨v, rfl, HQ.out⟩
set_option maxRecDepth 100000 in
set_option maxHeartbeats 1000000 in
theorem crash_lost (base b n : Nat) (keep tear : Int) (w : World) (h : LI w base b n) : Calls Try.prog 29 #[.pointer (some ⟨b, 0, none⟩), .int .u64 keep, .int .i64 tear] w fun e w' => e = .returned (.tuple #[]) ∧ LI w' base b n ∧ Ch w (· = b) w' (· = b) := by
  have hloo := loose_lost base b n w h
  have HX := Hid_of h
  clear h
  by_cases h1 : 1 ≤ tear
  all_goals
    go_enter Try.func29, Try.ntmps29
    go_wp2_with fail
    refine hloo.mono ?_
    rintro e w2 ⟨v, rfl, ho, hb2⟩
    obtain ⟨a, cap, rfl, _⟩ := owns_at ho
    have hrow : w2.heap[b]? = _ := (hb2.block b HX.out.lt).trans HX.out.row
    obtain ⟨⟨_, _, r2, _⟩, rf⟩ := row4 hrow
    have HK : Hid (LI (w2.setCell ⟨b, 2, none⟩ (.slice none 0 0)) base b n ∧ Ch w (· = b) (w2.setCell ⟨b, 2, none⟩ (.slice none 0 0)) (· = b)) := ⟨⟨heap_setCell_same w2 b 2 _ _ _ hrow, HX.out.n1, HX.out.low⟩, (Ch.ofBelow hb2).trans (Ch.cell b 2 _ rfl)⟩
    have rf2 := rf 2
    clear hloo ho hb2 hrow rf HX
    go_wp2
    go_loopw [6, 22] (fun t i wr => (∃ T : Bool, t = .bool T) ∧ i = .int .i64 0 ∧ wr = w2) (fun _ _ _ => 0)
    case atStart => exact ⟨⟨_, rfl⟩, rfl, rfl⟩
    case round =>
      obtain ⟨⟨T, rfl⟩, rfl, rfl⟩ := hrel
      go_wp2
      go_end0
      exact ⟨rfl, HK.out⟩
end Go.Proofs.Yticjilpomdahbaa
