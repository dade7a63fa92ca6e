/-
  A store that is none.
-/
import Derived.Test.YticjilpomdahbaaFA
namespace Go.Proofs.Yticjilpomdahbaa
open Go.RowKit
open M (ofL ofL_size ofL_of)
set_option linter.unusedVariables false

set_option maxRecDepth 100000 in
set_option maxHeartbeats 400000 in
theorem find_nil (p q : Int) (w : World) : Calls Try.prog 11 #[.pointer none, .agg #[.int .i64 p, .int .i64 q]] w fun e w' => e = .returned (.tuple #[.int .i64 0, .int .i64 1]) ∧ Below w.heap.size w w' := by
  have HB := Hid_of (bel1 w (.cells #[.int .i64 p, .int .i64 q] 23))
  go_enter Try.func11, Try.ntmps11
  go_wp2
  go_ret2
  exact ⟨rfl, HB.out⟩
set_option maxRecDepth 100000 in
set_option maxHeartbeats 400000 in
theorem get_nil (p q : Int) (w : World) : Calls Try.prog 4 #[.pointer none, .agg #[.int .i64 p, .int .i64 q]] w fun e w' => e = .returned (.tuple #[.string { data := #[] }, .int .i64 1]) ∧ Below w.heap.size w w' := by
  have HB := Hid_of (bel1 w (.cells #[.int .i64 p, .int .i64 q] 23))
  have hc := find_nil p q (w.alloc (.cells #[.int .i64 p, .int .i64 q] 23))
  go_enter Try.func4, Try.ntmps4
  go_wp2_with fail
  refine hc.mono ?_
  rintro e w1 ⟨rfl, hb⟩
  have HB1 := Hid_of (bel_up HB.out hb (Nat.le_refl _))
  clear hc hb
  go_wp2
  go_ret2
  exact ⟨rfl, HB1.out⟩
set_option maxRecDepth 100000 in
set_option maxHeartbeats 400000 in
theorem room_nil (p q : Int) (t : ByteArray) (w : World) : Calls Try.prog 18 #[.pointer none, .agg #[.int .i64 p, .int .i64 q], .string t] w fun e w' => e = .returned (.tuple #[.int .i64 0, .int .i64 1]) ∧ Below w.heap.size w w' := by
  have HB := Hid_of (bel1 w (.cells #[.int .i64 p, .int .i64 q] 23))
  go_enter Try.func18, Try.ntmps18
  go_wp2
  go_ret2
  exact ⟨rfl, HB.out⟩
set_option maxRecDepth 100000 in
set_option maxHeartbeats 400000 in
theorem put_nil (p q : Int) (t : ByteArray) (st : Int) (w : World) : Calls Try.prog 6 #[.pointer none, .agg #[.int .i64 p, .int .i64 q], .string t, .int .i64 st] w fun e w' => e = .returned (.int .i64 1) ∧ Below w.heap.size w w' := by
  have HB := Hid_of (bel1 w (.cells #[.int .i64 p, .int .i64 q] 23))
  have hc := room_nil p q t (w.alloc (.cells #[.int .i64 p, .int .i64 q] 23))
  go_enter Try.func6, Try.ntmps6
  go_wp2_with fail
  refine hc.mono ?_
  rintro e w1 ⟨rfl, hb⟩
  have HB1 := Hid_of (bel_up HB.out hb (Nat.le_refl _))
  clear hc hb
  go_wp2
  go_ret
  exact ⟨rfl, HB1.out⟩
set_option maxRecDepth 100000 in
set_option maxHeartbeats 400000 in
theorem del_nil (p q : Int) (st : Int) (w : World) : Calls Try.prog 7 #[.pointer none, .agg #[.int .i64 p, .int .i64 q], .int .i64 st] w fun e w' => e = .returned (.int .i64 1) ∧ Below w.heap.size w w' := by
  have HB := Hid_of (bel1 w (.cells #[.int .i64 p, .int .i64 q] 23))
  have hc := find_nil p q (w.alloc (.cells #[.int .i64 p, .int .i64 q] 23))
  go_enter Try.func7, Try.ntmps7
  go_wp2_with fail
  refine hc.mono ?_
  rintro e w1 ⟨rfl, hb⟩
  have HB1 := Hid_of (bel_up HB.out hb (Nat.le_refl _))
  clear hc hb
  go_wp2
  go_ret
  exact ⟨rfl, HB1.out⟩
set_option maxHeartbeats 400000 in
theorem list_nil (w : World) : Calls Try.prog 8 #[.pointer none] w fun e w' => e = .returned (.slice none 0 0) ∧ w' = w := by
  go_enter Try.func8, Try.ntmps8
  go_wp2
  go_ret
  exact ⟨rfl, rfl⟩
set_option maxHeartbeats 400000 in
theorem free_nil (w : World) : Calls Try.prog 9 #[.pointer none] w fun e w' => e = .returned (.int .i64 0) ∧ w' = w := by
  go_enter Try.func9, Try.ntmps9
  go_wp2
  go_ret
  exact ⟨rfl, rfl⟩
set_option maxRecDepth 100000 in
set_option maxHeartbeats 400000 in
theorem open_nil (w : World) : Calls Try.prog 5 #[.pointer none] w fun e w' => e = .returned (.tuple #[.pointer none, .int .i64 1]) ∧ w' = w := by
  go_enter Try.func5, Try.ntmps5
  go_wp2_with fail
  go_step3
  go_wp2
  first | (rw [Exit.noGoto_ret]; go_ret2; exact ⟨rfl, rfl⟩) | (go_ret2; exact ⟨rfl, rfl⟩)
set_option maxRecDepth 100000 in
set_option maxHeartbeats 400000 in
theorem none_walk (k st p q : Int) (t : ByteArray) (keep : Nat) (w : World) (ht : True ∧ t.size ≤ maxLen ∧ keep < 18446744073709551616) :
    Calls Try.prog 3 #[.agg #[.int .i64 k, .int .i64 st, .int .i64 p, .int .i64 q, .string t, .int .u64 (keep : Int)]] w fun e w' => e = .returned (.bool true) ∧ Below w.heap.size w w' := by
  obtain ⟨W0, hW0⟩ : ∃ W0, w.alloc (.cells #[.int .i64 k, .int .i64 st, .int .i64 p, .int .i64 q, .string t, .int .u64 (keep : Int)] 26) = W0 := ⟨_, rfl⟩
  have hb0 : Below w.heap.size w W0 := by rw [← hW0]; exact bel1 w _
  have hr0 : W0.heap[w.heap.size]? = some (.cells #[.int .i64 k, .int .i64 st, .int .i64 p, .int .i64 q, .string t, .int .u64 (keep : Int)] 26 (0, 0)) := by rw [← hW0]; exact heap_alloc_last w _
  have HC : Hid (∀ W : World, W.heap[w.heap.size]? = some (.cells #[.int .i64 k, .int .i64 st, .int .i64 p, .int .i64 q, .string t, .int .u64 (keep : Int)] 26 (0, 0)) → W.cell? ⟨w.heap.size, 1, none⟩ = some (.int .i64 st) ∧ W.cell? ⟨w.heap.size, 2, none⟩ = some (.int .i64 p) ∧ W.cell? ⟨w.heap.size, 3, none⟩ = some (.int .i64 q) ∧ W.cell? ⟨w.heap.size, 4, none⟩ = some (.string t)) := fun W h => by
    refine ⟨?_, ?_, ?_, ?_⟩
    all_goals rw [cell_of_row W w.heap.size _ _ _ _ h]; rfl
  have HW0 := Hid_of hW0
  have HB0 := Hid_of hb0
  have HR0 := Hid_of hr0
  obtain ⟨x1, x2, x3, x4⟩ := HC.out W0 hr0
  clear hW0 hb0 hr0
  have c1 := get_nil p q W0
  go_enter Try.func3, Try.ntmps3
  go_upto_region 1 with fail
  rw [HW0.out]
  clear HW0
  go_wp2_with fail
  refine c1.mono ?_
  rintro e w1 ⟨rfl, b1⟩
  have HB1 := Hid_of (bel_up HB0.out b1 (Nat.le_refl _))
  have HR1 := Hid_of (bel_row HR0.out b1)
  clear c1 b1 x1 x2 x3 x4 HB0 HR0
  go_wp2_with fail
  refine (open_nil _).mono ?_
  rintro e w2 ⟨rfl, rfl⟩
  obtain ⟨x1, x2, x3, x4⟩ := HC.out w2 HR1.out
  have c2 := put_nil p q t st w2
  go_wp2_with fail
  refine c2.mono ?_
  rintro e w3 ⟨rfl, b3⟩
  have HB3 := Hid_of (bel_up HB1.out b3 (Nat.le_refl _))
  have HR3 := Hid_of (bel_row HR1.out b3)
  clear c2 b3 x1 x2 x3 x4 HB1 HR1
  obtain ⟨x1, x2, x3, x4⟩ := HC.out w3 HR3.out
  have c3 := del_nil p q st w3
  go_wp2_with fail
  refine c3.mono ?_
  rintro e w4 ⟨rfl, b4⟩
  have HB4 := Hid_of (bel_up HB3.out b4 (Nat.le_refl _))
  clear c3 b4 x1 x2 x3 x4 HB3 HR3
  go_wp2_with fail
  refine (list_nil _).mono ?_
  rintro e w5 ⟨rfl, rfl⟩
  go_wp2_with fail
  refine (free_nil _).mono ?_
  rintro e w6 ⟨rfl, rfl⟩
  go_wp2_with fail
  refine (awake_any _).mono ?_
  rintro e w7 ⟨rfl, b7⟩
  have HB7 := Hid_of (bel_up HB4.out b7 (Nat.le_refl _))
  clear b7
  go_wp2
  go_ret
  exact ⟨rfl, HB7.out⟩
end Go.Proofs.Yticjilpomdahbaa
