/-
  Messages compared; the chapter's example.
-/
import Derived.Test.YtdnaacbfhjcjbaaFJ
import Derived.Laws.StructEq
namespace Go.Proofs.Ytdnaacbfhjcjbaa
open Go.RowKit
set_option linter.unusedVariables false

set_option maxHeartbeats 400000 in
theorem eq23 (k f t i : Int) (b : ByteArray) (w : World) : (binOp .eql 23 (.agg #[.int .i64 k, .int .i64 f, .int .i64 t, .int .i64 i, .string b]) (.agg #[.int .i64 k, .int .i64 f, .int .i64 t, .int .i64 i, .string b])).run Try.prog w = .ok (.bool true) w := by
  have u3 := Try.underlying3
  have u9 := Try.underlying9
  have a3 := Try.isAgg3
  have a9 := Try.isAgg9
  have z3 := Try.sizeOf3
  have z9 := Try.sizeOf9
  have hS : Try.prog.underlying 23 = some (.struct (Try.prog.fieldsOf 23)) := by kernel_rfl
  have hp : Try.prog.stoodInHeld 23 = false := by kernel_rfl
  rw [run_eql_struct, show (10000 : Nat) = 9999 + 1 from rfl, run_equalIn_agg w 9999 23 _ _ hS hp]
  simp only [Program.fieldsOf, Try.underlying23]
  go_simp
set_option maxHeartbeats 400000 in
theorem ne23 (k f t i : Int) (b : ByteArray) (w : World) : (binOp .neq 23 (.agg #[.int .i64 k, .int .i64 f, .int .i64 t, .int .i64 i, .string b]) (.agg #[.int .i64 k, .int .i64 f, .int .i64 t, .int .i64 i, .string b])).run Try.prog w = .ok (.bool false) w := by
  have u3 := Try.underlying3
  have u9 := Try.underlying9
  have a3 := Try.isAgg3
  have a9 := Try.isAgg9
  have z3 := Try.sizeOf3
  have z9 := Try.sizeOf9
  have hS : Try.prog.underlying 23 = some (.struct (Try.prog.fieldsOf 23)) := by kernel_rfl
  have hp : Try.prog.stoodInHeld 23 = false := by kernel_rfl
  rw [run_neq_struct, show (10000 : Nat) = 9999 + 1 from rfl, run_equalIn_agg w 9999 23 _ _ hS hp]
  simp only [Program.fieldsOf, Try.underlying23]
  go_simp
theorem exA : Msg.ecode 1 0 0 0 [] = [1, 0, 0, 0, 0, 173, 222, 66, 251] := by kernel_rfl
theorem exA2 : Msg.chk 1 0 0 0 0 = 0 := by kernel_rfl
theorem exS : Msg.ecode 99 63 1 300 [97, 98] = [99, 63, 1, 216, 4, 4, 97, 98, 174, 47, 133, 64] := by kernel_rfl
theorem exS2 : Msg.chk 99 63 1 300 2 = 0 := by kernel_rfl
theorem exD : dval { data := #[99, 63, 1, 216, 4, 4, 97, 98, 174, 47, 133, 64] } = .tuple #[.agg #[.int .i64 99, .int .i64 63, .int .i64 1, .int .i64 300, .string { data := #[97, 98] }], .int .i64 0] := by kernel_rfl
theorem exC : dval { data := #[97, 98, 99, 100] } = .tuple #[.agg #[.int .i64 0, .int .i64 0, .int .i64 0, .int .i64 0, .string { data := #[] }], .int .i64 4] := by kernel_rfl
theorem encA (w : World) : Calls Try.prog 7 #[.agg #[.int .i64 1, .int .i64 0, .int .i64 0, .int .i64 0, .string { data := #[] }]] w fun e w' => e = .returned (.tuple #[.string { data := #[1, 0, 0, 0, 0, 173, 222, 66, 251] }, .int .i64 0]) ∧ Below w.heap.size w w' := by
  have := encode_any 1 0 0 0 [] w (by unfold maxLen; simp)
  rw [exA] at this
  exact this
theorem encS (w : World) : Calls Try.prog 7 #[.agg #[.int .i64 99, .int .i64 63, .int .i64 1, .int .i64 300, .string { data := #[97, 98] }]] w fun e w' => e = .returned (.tuple #[.string { data := #[99, 63, 1, 216, 4, 4, 97, 98, 174, 47, 133, 64] }, .int .i64 0]) ∧ Below w.heap.size w w' := by
  have := encode_any 99 63 1 300 [97, 98] w (by unfold maxLen; simp)
  rw [exS] at this
  exact this
theorem decS (w : World) : Calls Try.prog 12 #[.string { data := #[99, 63, 1, 216, 4, 4, 97, 98, 174, 47, 133, 64] }] w fun e w' => e = .returned (.tuple #[.agg #[.int .i64 99, .int .i64 63, .int .i64 1, .int .i64 300, .string { data := #[97, 98] }], .int .i64 0]) ∧ Below w.heap.size w w' := by
  rw [← exD]; exact decode_any _ w (by decide)
theorem decC (w : World) : Calls Try.prog 12 #[.string { data := #[97, 98, 99, 100] }] w fun e w' => e = .returned (.tuple #[.agg #[.int .i64 0, .int .i64 0, .int .i64 0, .int .i64 0, .string { data := #[] }], .int .i64 4]) ∧ Below w.heap.size w w' := by
  rw [← exC]; exact decode_any _ w (by decide)
theorem chkZ (w : World) : Calls Try.prog 9 #[.agg #[.int .i64 0, .int .i64 0, .int .i64 0, .int .i64 0, .string { data := #[] }]] w fun e w' => e = .returned (.int .i64 1) ∧ Below w.heap.size w w' :=
  check_any 0 0 0 0 { data := #[] } w (by decide)
theorem lenA : ByteArray.size { data := #[1, 0, 0, 0, 0, 173, 222, 66, 251] } = 9 := rfl
theorem cutA : ByteArray.extract { data := #[1, 0, 0, 0, 0, 173, 222, 66, 251] } 0 5 = { data := #[1, 0, 0, 0, 0] } := by kernel_rfl
set_option maxRecDepth 100000 in
set_option maxHeartbeats 400000 in
theorem awake_any (w : World) : Calls Try.prog 11 #[] w fun e w' => e = .returned (.bool true) ∧ Below w.heap.size w w' := by
  have e1 := eq23 99 63 1 300 { data := #[97, 98] }
  go_enter Try.func11, Try.ntmps11
  go_wp2_with fail
  refine (encA _).mono ?_
  rintro x w1 ⟨rfl, hb1⟩
  have HB1 := Hid_of hb1
  clear hb1
  obtain ⟨W2, hW2⟩ : ∃ W, w1.alloc (.cells #[.int .i64 99, .int .i64 63, .int .i64 1, .int .i64 300, .string { data := #[97, 98] }] 23) = W := ⟨_, rfl⟩
  have HB2 := Hid_of (show Below w.heap.size w W2 by rw [← hW2]; exact bel_up HB1.out (bel1 w1 _) (Nat.le_refl _))
  have HM2 := Hid_of (show W2.heap[w1.heap.size]? = some (.cells #[.int .i64 99, .int .i64 63, .int .i64 1, .int .i64 300, .string { data := #[97, 98] }] 23 (0, 0)) by rw [← hW2]; exact heap_alloc_new w1 _)
  have HW2 := Hid_of hW2
  clear hW2 HB1
  go_upto_region 3 with fail
  rw [HW2.out]
  clear HW2
  generalize w1.heap.size = m at *
  obtain ⟨⟨y0, y1, y2, y3, y4⟩, -⟩ := row5 HM2.out
  go_wp2_with fail
  refine (encS _).mono ?_
  rintro x w3 ⟨rfl, hb3⟩
  have HB3 := Hid_of (bel_up HB2.out hb3 (Nat.le_refl _))
  have HM3 := Hid_of (bel_row HM2.out hb3)
  clear hb3 HB2 HM2 y0 y1 y2 y3 y4
  go_wp2_with fail
  refine (decS _).mono ?_
  rintro x w4 ⟨rfl, hb4⟩
  have HB4 := Hid_of (bel_up HB3.out hb4 (Nat.le_refl _))
  have HM4 := Hid_of (bel_row HM3.out hb4)
  clear hb4 HB3 HM3
  obtain ⟨W5, hW5⟩ : ∃ W, w4.alloc (.cells #[.int .i64 99, .int .i64 63, .int .i64 1, .int .i64 300, .string { data := #[97, 98] }] 23) = W := ⟨_, rfl⟩
  have HB5 := Hid_of (show Below w.heap.size w W5 by rw [← hW5]; exact bel_up HB4.out (bel1 w4 _) (Nat.le_refl _))
  have HM5 := Hid_of (show W5.heap[m]? = some (.cells #[.int .i64 99, .int .i64 63, .int .i64 1, .int .i64 300, .string { data := #[97, 98] }] 23 (0, 0)) by rw [← hW5]; exact bel_row HM4.out (bel1 w4 _))
  have HN5 := Hid_of (show W5.heap[w4.heap.size]? = some (.cells #[.int .i64 99, .int .i64 63, .int .i64 1, .int .i64 300, .string { data := #[97, 98] }] 23 (0, 0)) by rw [← hW5]; exact heap_alloc_new w4 _)
  have HW5 := Hid_of hW5
  clear hW5 HB4 HM4
  go_upto_region 5 with fail
  rw [HW5.out]
  clear HW5
  generalize w4.heap.size = n at *
  go_wp2_with fail
  refine (decC _).mono ?_
  rintro x w6 ⟨rfl, hb6⟩
  have HB6 := Hid_of (bel_up HB5.out hb6 (Nat.le_refl _))
  have HM6 := Hid_of (bel_row HM5.out hb6)
  have HN6 := Hid_of (bel_row HN5.out hb6)
  clear hb6 HB5 HM5 HN5
  obtain ⟨W7, hW7⟩ : ∃ W, w6.alloc (.cells #[.int .i64 0, .int .i64 0, .int .i64 0, .int .i64 0, .string { data := #[] }] 23) = W := ⟨_, rfl⟩
  have HB7 := Hid_of (show Below w.heap.size w W7 by rw [← hW7]; exact bel_up HB6.out (bel1 w6 _) (Nat.le_refl _))
  have HM7 := Hid_of (show W7.heap[m]? = some (.cells #[.int .i64 99, .int .i64 63, .int .i64 1, .int .i64 300, .string { data := #[97, 98] }] 23 (0, 0)) by rw [← hW7]; exact bel_row HM6.out (bel1 w6 _))
  have HN7 := Hid_of (show W7.heap[n]? = some (.cells #[.int .i64 99, .int .i64 63, .int .i64 1, .int .i64 300, .string { data := #[97, 98] }] 23 (0, 0)) by rw [← hW7]; exact bel_row HN6.out (bel1 w6 _))
  have HW7 := Hid_of hW7
  clear hW7 HB6 HM6 HN6
  go_upto_region 6 with fail
  rw [HW7.out]
  clear HW7
  obtain ⟨⟨y0, y1, y2, y3, y4⟩, -⟩ := row5 HM7.out
  obtain ⟨⟨x0, x1, x2, x3, x4⟩, -⟩ := row5 HN7.out
  have l1 := lenA
  have l2 := cutA
  go_wp2_with fail
  refine (chkZ _).mono ?_
  rintro x w8 ⟨rfl, hb8⟩
  have HB8 := Hid_of (bel_up HB7.out hb8 (Nat.le_refl _))
  clear hb8 HB7 HM7 HN7 y0 y1 y2 y3 y4 x0 x1 x2 x3 x4
  go_wp2
  go_ret
  exact ⟨rfl, HB8.out⟩
theorem own : ownKnob Try.prog.godebug = none := by kernel_rfl
end Go.Proofs.Ytdnaacbfhjcjbaa
