/-
  The law of Decode, walked.
-/
import Derived.Test.YtdnaacbfhjcjbaaL
namespace Go.Proofs.Ytdnaacbfhjcjbaa
open Go.RowKit
set_option linter.unusedVariables false

theorem decode_is (s : ByteArray) (hs : s.size ≤ 1000000) (W : World) : Calls Try.prog 12 #[.string s] W fun e w' => e = .returned (.tuple #[.agg #[.int .i64 (Msg.dk s), .int .i64 (Msg.df s), .int .i64 (Msg.dt s), .int .i64 (Msg.di s), .string (ofL (Msg.db s))], .int .i64 (Msg.dcode s)]) ∧ Below W.heap.size W w' := decode_any s W hs
theorem refDecode_is (s : ByteArray) (hs : s.size ≤ 1000000) (W : World) : Calls Try.prog 13 #[.string s] W fun e w' => e = .returned (.tuple #[.agg #[.int .i64 (Msg.dk s), .int .i64 (Msg.df s), .int .i64 (Msg.dt s), .int .i64 (Msg.di s), .string (ofL (Msg.db s))], .int .i64 (Msg.dcode s)]) ∧ Below W.heap.size W w' := refDecode_any s W hs
set_option maxRecDepth 100000 in
set_option maxHeartbeats 400000 in
theorem decodes_walk (s : ByteArray) (w : World) (hs : s.size ≤ maxLen) :
    Calls Try.prog 4 #[.string s] w fun e w' => e = .returned (.bool true) ∧ Below w.heap.size w w' := by
  by_cases hl : 10000 < s.size
  · have d1 : decide ((10000 : Int) < (s.size : Int)) = true := by simp; omega
    go_enter Try.func4, Try.ntmps4
    go_wp2_with fail
    refine (awake_any _).mono ?_
    rintro x w1 ⟨rfl, hb1⟩
    go_wp2
    go_ret
    exact ⟨rfl, hb1⟩
  · have d1 : decide ((10000 : Int) < (s.size : Int)) = false := by simp; omega
    have c1 := fun W => decode_is s (by omega) W
    have c2 := fun W => refDecode_is s (by omega) W
    have e1 := eq23 (Msg.dk s) (Msg.df s) (Msg.dt s) (Msg.di s) (ofL (Msg.db s))
    generalize Msg.dk s = k at *
    generalize Msg.df s = f at *
    generalize Msg.dt s = t at *
    generalize Msg.di s = i at *
    generalize ofL (Msg.db s) = b at *
    generalize Msg.dcode s = c at *
    clear hl
    go_enter Try.func4, Try.ntmps4
    go_wp2_with fail
    refine (c1 _).mono ?_
    rintro x w1 ⟨rfl, hb1⟩
    have HB1 := Hid_of hb1
    obtain ⟨W2, hW2⟩ : ∃ W, w1.alloc (.cells #[.int .i64 k, .int .i64 f, .int .i64 t, .int .i64 i, .string b] 23) = W := ⟨_, rfl⟩
    have HB2 := Hid_of (show Below w.heap.size w W2 by rw [← hW2]; exact bel_up HB1.out (bel1 w1 _) (Nat.le_refl _))
    have HM2 := Hid_of (show W2.heap[w1.heap.size]? = some (.cells #[.int .i64 k, .int .i64 f, .int .i64 t, .int .i64 i, .string b] 23 (0, 0)) by rw [← hW2]; exact heap_alloc_new w1 _)
    have HW2 := Hid_of hW2
    clear c1 hb1 hW2 HB1
    go_upto_region 4 with fail
    rw [HW2.out]
    clear HW2
    generalize w1.heap.size = m at *
    go_wp2_with fail
    refine (c2 _).mono ?_
    rintro x w3 ⟨rfl, hb3⟩
    have HB3 := Hid_of (bel_up HB2.out hb3 (Nat.le_refl _))
    have HM3 := Hid_of (bel_row HM2.out hb3)
    obtain ⟨W4, hW4⟩ : ∃ W, w3.alloc (.cells #[.int .i64 k, .int .i64 f, .int .i64 t, .int .i64 i, .string b] 23) = W := ⟨_, rfl⟩
    have HB4 := Hid_of (show Below w.heap.size w W4 by rw [← hW4]; exact bel_up HB3.out (bel1 w3 _) (Nat.le_refl _))
    have HM4 := Hid_of (show W4.heap[m]? = some (.cells #[.int .i64 k, .int .i64 f, .int .i64 t, .int .i64 i, .string b] 23 (0, 0)) by rw [← hW4]; exact bel_row HM3.out (bel1 w3 _))
    have HN4 := Hid_of (show W4.heap[w3.heap.size]? = some (.cells #[.int .i64 k, .int .i64 f, .int .i64 t, .int .i64 i, .string b] 23 (0, 0)) by rw [← hW4]; exact heap_alloc_new w3 _)
    have HW4 := Hid_of hW4
    clear c2 hb3 hW4 HB2 HB3 HM2 HM3
    go_upto_region 5 with fail
    rw [HW4.out]
    clear HW4
    generalize w3.heap.size = n at *
    obtain ⟨⟨y0, y1, y2, y3, y4⟩, -⟩ := row5 HM4.out
    obtain ⟨⟨x0, x1, x2, x3, x4⟩, -⟩ := row5 HN4.out
    go_wp2_with fail
    refine (awake_any _).mono ?_
    rintro x w5 ⟨rfl, hb5⟩
    have HB5 := Hid_of (bel_up HB4.out hb5 (Nat.le_refl _))
    clear hb5 y0 y1 y2 y3 y4 x0 x1 x2 x3 x4
    go_wp2
    go_ret
    exact ⟨rfl, HB5.out⟩
end Go.Proofs.Ytdnaacbfhjcjbaa
