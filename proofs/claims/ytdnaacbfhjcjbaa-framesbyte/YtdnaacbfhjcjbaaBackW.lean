/-
  The law of messages there and back, walked.
-/
import Derived.Test.YtdnaacbfhjcjbaaDecW
namespace Go.Proofs.Ytdnaacbfhjcjbaa
open Go.RowKit
set_option linter.unusedVariables false

theorem sealed_le (k f t i : Int) (b : List UInt8) (h : Msg.chk k f t i b.length = 0) : (ofL (K2.sealed (Msg.bts k f t i b))).size ≤ 1000000 := by
  obtain ⟨hf, hs⟩ := (Msg.chk_zero _ _ _ _ _).1 h
  obtain ⟨h1, h2, h3, h4⟩ := (Msg.fits_iff _ _ _ _).1 hf
  have := Msg.bts_len k f t i b h4 hs
  rw [ofL_size, K2.seal_len]
  omega
theorem back_is (k f t i : Int) (b : List UInt8) (h : Msg.chk k f t i b.length = 0) (W : World) : Calls Try.prog 12 #[.string (ofL (K2.sealed (Msg.bts k f t i b)))] W fun e w' => e = .returned (.tuple #[.agg #[.int .i64 k, .int .i64 f, .int .i64 t, .int .i64 i, .string (ofL b)], .int .i64 0]) ∧ Below W.heap.size W w' := by
  obtain ⟨e0, e1, e2, e3, e4, e5⟩ := Msg.back_of k f t i b h
  have := decode_is _ (sealed_le k f t i b h) W
  rwa [e0, e1, e2, e3, e4, e5] at this
theorem only_is (s : ByteArray) (h : Msg.dcode s = 0) (W : World) : Calls Try.prog 7 #[.agg #[.int .i64 (Msg.dk s), .int .i64 (Msg.df s), .int .i64 (Msg.dt s), .int .i64 (Msg.di s), .string (ofL (Msg.db s))]] W fun e w' => e = .returned (.tuple #[.string s, .int .i64 0]) ∧ Below W.heap.size W w' := by
  obtain ⟨h1, h2⟩ := Msg.only_of s h
  have := encode_ok _ _ _ _ _ W h1
  rwa [h2] at this
set_option maxRecDepth 100000 in
set_option maxHeartbeats 400000 in
theorem back_11 (k f t i : Int) (b : List UInt8) (s : ByteArray) (w : World) (hs : s.size ≤ 10000) (k2 f2 t2 i2 : Int) (b2 : ByteArray) (A : ByteArray) (c1 : ∀ W, Calls Try.prog 7 #[.agg #[.int .i64 k, .int .i64 f, .int .i64 t, .int .i64 i, .string (ofL b)]] W fun e w' => e = .returned (.tuple #[.string A, .int .i64 0]) ∧ Below W.heap.size W w') (c2 : ∀ W, Calls Try.prog 12 #[.string A] W fun e w' => e = .returned (.tuple #[.agg #[.int .i64 k, .int .i64 f, .int .i64 t, .int .i64 i, .string (ofL b)], .int .i64 0]) ∧ Below W.heap.size W w') (c3 : ∀ W, Calls Try.prog 12 #[.string s] W fun e w' => e = .returned (.tuple #[.agg #[.int .i64 k2, .int .i64 f2, .int .i64 t2, .int .i64 i2, .string b2], .int .i64 0]) ∧ Below W.heap.size W w') (c4 : ∀ W, Calls Try.prog 7 #[.agg #[.int .i64 k2, .int .i64 f2, .int .i64 t2, .int .i64 i2, .string b2]] W fun e w' => e = .returned (.tuple #[.string s, .int .i64 0]) ∧ Below W.heap.size W w') :
    Calls Try.prog 5 #[.agg #[.int .i64 k, .int .i64 f, .int .i64 t, .int .i64 i, .string (ofL b)], .string s] w fun e w' => e = .returned (.bool true) ∧ Below w.heap.size w w' := by
  have d1 : decide ((10000 : Int) < (s.size : Int)) = false := by simp; omega
  have e1 := ne23 k f t i (ofL b)
  have HB0 := Hid_of (bel1 w (.cells #[.int .i64 k, .int .i64 f, .int .i64 t, .int .i64 i, .string (ofL b)] 23))
  have HR0 := Hid_of (heap_alloc_new w (.cells #[.int .i64 k, .int .i64 f, .int .i64 t, .int .i64 i, .string (ofL b)] 23))
  go_enter Try.func5, Try.ntmps5
  go_wp2_with fail
  refine (c1 _).mono ?_
  rintro x w1 ⟨rfl, hb1⟩
  have HB1 := Hid_of (bel_up HB0.out hb1 (Nat.le_refl _))
  have HR1 := Hid_of (bel_row HR0.out hb1)
  clear c1 hb1 HB0 HR0
  go_wp2_with fail
  refine (c2 _).mono ?_
  rintro x w2 ⟨rfl, hb2⟩
  have HB2 := Hid_of (bel_up HB1.out hb2 (Nat.le_refl _))
  have HR2 := Hid_of (bel_row HR1.out hb2)
  obtain ⟨W3, hW3⟩ : ∃ W, w2.alloc (.cells #[.int .i64 k, .int .i64 f, .int .i64 t, .int .i64 i, .string (ofL b)] 23) = W := ⟨_, rfl⟩
  have HB3 := Hid_of (show Below w.heap.size w W3 by rw [← hW3]; exact bel_up HB2.out (bel1 w2 _) (Nat.le_refl _))
  have HR3 := Hid_of (show W3.heap[w.heap.size]? = some (.cells #[.int .i64 k, .int .i64 f, .int .i64 t, .int .i64 i, .string (ofL b)] 23 (0, 0)) by rw [← hW3]; exact bel_row HR2.out (bel1 w2 _))
  have HN3 := Hid_of (show W3.heap[w2.heap.size]? = some (.cells #[.int .i64 k, .int .i64 f, .int .i64 t, .int .i64 i, .string (ofL b)] 23 (0, 0)) by rw [← hW3]; exact heap_alloc_new w2 _)
  have HW3 := Hid_of hW3
  clear c2 hb2 hW3 HB1 HB2 HR1 HR2
  go_upto_region 6 with fail
  rw [HW3.out]
  clear HW3
  generalize w2.heap.size = n at *
  obtain ⟨⟨y0, y1, y2, y3, y4⟩, -⟩ := row5 HR3.out
  obtain ⟨⟨x0, x1, x2, x3, x4⟩, -⟩ := row5 HN3.out
  clear HR3 HN3
  go_upto_region 8 with fail
  clear e1 y0 y1 y2 y3 y4 x0 x1 x2 x3 x4
  go_wp2_with fail
  refine (c3 _).mono ?_
  rintro x w4 ⟨rfl, hb4⟩
  have HB4 := Hid_of (bel_up HB3.out hb4 (Nat.le_refl _))
  obtain ⟨W5, hW5⟩ : ∃ W, w4.alloc (.cells #[.int .i64 k2, .int .i64 f2, .int .i64 t2, .int .i64 i2, .string b2] 23) = W := ⟨_, rfl⟩
  have HB5 := Hid_of (show Below w.heap.size w W5 by rw [← hW5]; exact bel_up HB4.out (bel1 w4 _) (Nat.le_refl _))
  have HN5 := Hid_of (show W5.heap[w4.heap.size]? = some (.cells #[.int .i64 k2, .int .i64 f2, .int .i64 t2, .int .i64 i2, .string b2] 23 (0, 0)) by rw [← hW5]; exact heap_alloc_new w4 _)
  have HW5 := Hid_of hW5
  clear c3 hb4 hW5 HB3 HB4
  go_upto_region 9 with fail
  rw [HW5.out]
  clear HW5
  generalize w4.heap.size = n2 at *
  obtain ⟨⟨x0, x1, x2, x3, x4⟩, -⟩ := row5 HN5.out
  clear HN5
  go_wp2_with fail
  refine (c4 _).mono ?_
  rintro x w6 ⟨rfl, hb6⟩
  have HB6 := Hid_of (bel_up HB5.out hb6 (Nat.le_refl _))
  clear c4 hb6 HB5 x0 x1 x2 x3 x4
  go_wp2_with fail
  refine (awake_any _).mono ?_
  rintro x w7 ⟨rfl, hb7⟩
  have HB7 := Hid_of (bel_up HB6.out hb7 (Nat.le_refl _))
  clear hb7
  go_wp2
  go_ret
  exact ⟨rfl, HB7.out⟩
set_option maxRecDepth 100000 in
set_option maxHeartbeats 400000 in
theorem back_10 (k f t i : Int) (b : List UInt8) (s : ByteArray) (w : World) (hs : s.size ≤ 10000) (k2 f2 t2 i2 : Int) (b2 : ByteArray) (A : ByteArray) (c1 : ∀ W, Calls Try.prog 7 #[.agg #[.int .i64 k, .int .i64 f, .int .i64 t, .int .i64 i, .string (ofL b)]] W fun e w' => e = .returned (.tuple #[.string A, .int .i64 0]) ∧ Below W.heap.size W w') (c2 : ∀ W, Calls Try.prog 12 #[.string A] W fun e w' => e = .returned (.tuple #[.agg #[.int .i64 k, .int .i64 f, .int .i64 t, .int .i64 i, .string (ofL b)], .int .i64 0]) ∧ Below W.heap.size W w') (d : Int) (hd : d ≠ 0) (c3 : ∀ W, Calls Try.prog 12 #[.string s] W fun e w' => e = .returned (.tuple #[.agg #[.int .i64 k2, .int .i64 f2, .int .i64 t2, .int .i64 i2, .string b2], .int .i64 d]) ∧ Below W.heap.size W w') :
    Calls Try.prog 5 #[.agg #[.int .i64 k, .int .i64 f, .int .i64 t, .int .i64 i, .string (ofL b)], .string s] w fun e w' => e = .returned (.bool true) ∧ Below w.heap.size w w' := by
  have d1 : decide ((10000 : Int) < (s.size : Int)) = false := by simp; omega
  have e1 := ne23 k f t i (ofL b)
  have d3 : (d == 0) = false := by simpa using hd
  have d3' : (d = 0) = False := by simpa using hd
  have HB0 := Hid_of (bel1 w (.cells #[.int .i64 k, .int .i64 f, .int .i64 t, .int .i64 i, .string (ofL b)] 23))
  have HR0 := Hid_of (heap_alloc_new w (.cells #[.int .i64 k, .int .i64 f, .int .i64 t, .int .i64 i, .string (ofL b)] 23))
  go_enter Try.func5, Try.ntmps5
  go_wp2_with fail
  refine (c1 _).mono ?_
  rintro x w1 ⟨rfl, hb1⟩
  have HB1 := Hid_of (bel_up HB0.out hb1 (Nat.le_refl _))
  have HR1 := Hid_of (bel_row HR0.out hb1)
  clear c1 hb1 HB0 HR0
  go_wp2_with fail
  refine (c2 _).mono ?_
  rintro x w2 ⟨rfl, hb2⟩
  have HB2 := Hid_of (bel_up HB1.out hb2 (Nat.le_refl _))
  have HR2 := Hid_of (bel_row HR1.out hb2)
  obtain ⟨W3, hW3⟩ : ∃ W, w2.alloc (.cells #[.int .i64 k, .int .i64 f, .int .i64 t, .int .i64 i, .string (ofL b)] 23) = W := ⟨_, rfl⟩
  have HB3 := Hid_of (show Below w.heap.size w W3 by rw [← hW3]; exact bel_up HB2.out (bel1 w2 _) (Nat.le_refl _))
  have HR3 := Hid_of (show W3.heap[w.heap.size]? = some (.cells #[.int .i64 k, .int .i64 f, .int .i64 t, .int .i64 i, .string (ofL b)] 23 (0, 0)) by rw [← hW3]; exact bel_row HR2.out (bel1 w2 _))
  have HN3 := Hid_of (show W3.heap[w2.heap.size]? = some (.cells #[.int .i64 k, .int .i64 f, .int .i64 t, .int .i64 i, .string (ofL b)] 23 (0, 0)) by rw [← hW3]; exact heap_alloc_new w2 _)
  have HW3 := Hid_of hW3
  clear c2 hb2 hW3 HB1 HB2 HR1 HR2
  go_upto_region 6 with fail
  rw [HW3.out]
  clear HW3
  generalize w2.heap.size = n at *
  obtain ⟨⟨y0, y1, y2, y3, y4⟩, -⟩ := row5 HR3.out
  obtain ⟨⟨x0, x1, x2, x3, x4⟩, -⟩ := row5 HN3.out
  clear HR3 HN3
  go_upto_region 8 with fail
  clear e1 y0 y1 y2 y3 y4 x0 x1 x2 x3 x4
  go_wp2_with fail
  refine (c3 _).mono ?_
  rintro x w4 ⟨rfl, hb4⟩
  have HB4 := Hid_of (bel_up HB3.out hb4 (Nat.le_refl _))
  obtain ⟨w6, hW5⟩ : ∃ W, w4.alloc (.cells #[.int .i64 k2, .int .i64 f2, .int .i64 t2, .int .i64 i2, .string b2] 23) = W := ⟨_, rfl⟩
  have HB6 := Hid_of (show Below w.heap.size w w6 by rw [← hW5]; exact bel_up HB4.out (bel1 w4 _) (Nat.le_refl _))
  have HW5 := Hid_of hW5
  clear c3 hb4 hW5 HB3 HB4
  go_upto_region 9 with fail
  rw [HW5.out]
  clear HW5
  go_wp2_with fail
  refine (awake_any _).mono ?_
  rintro x w7 ⟨rfl, hb7⟩
  have HB7 := Hid_of (bel_up HB6.out hb7 (Nat.le_refl _))
  clear hb7
  go_wp2
  go_ret
  exact ⟨rfl, HB7.out⟩
set_option maxRecDepth 100000 in
set_option maxHeartbeats 400000 in
theorem back_01 (k f t i : Int) (b : List UInt8) (s : ByteArray) (w : World) (hs : s.size ≤ 10000) (k2 f2 t2 i2 : Int) (b2 : ByteArray) (A : ByteArray) (c : Int) (hc : c ≠ 0) (c1 : ∀ W, Calls Try.prog 7 #[.agg #[.int .i64 k, .int .i64 f, .int .i64 t, .int .i64 i, .string (ofL b)]] W fun e w' => e = .returned (.tuple #[.string A, .int .i64 c]) ∧ Below W.heap.size W w') (c3 : ∀ W, Calls Try.prog 12 #[.string s] W fun e w' => e = .returned (.tuple #[.agg #[.int .i64 k2, .int .i64 f2, .int .i64 t2, .int .i64 i2, .string b2], .int .i64 0]) ∧ Below W.heap.size W w') (c4 : ∀ W, Calls Try.prog 7 #[.agg #[.int .i64 k2, .int .i64 f2, .int .i64 t2, .int .i64 i2, .string b2]] W fun e w' => e = .returned (.tuple #[.string s, .int .i64 0]) ∧ Below W.heap.size W w') :
    Calls Try.prog 5 #[.agg #[.int .i64 k, .int .i64 f, .int .i64 t, .int .i64 i, .string (ofL b)], .string s] w fun e w' => e = .returned (.bool true) ∧ Below w.heap.size w w' := by
  have d1 : decide ((10000 : Int) < (s.size : Int)) = false := by simp; omega
  have d2 : (c == 0) = false := by simpa using hc
  have d2' : (c = 0) = False := by simpa using hc
  have HB0 := Hid_of (bel1 w (.cells #[.int .i64 k, .int .i64 f, .int .i64 t, .int .i64 i, .string (ofL b)] 23))
  have HR0 := Hid_of (heap_alloc_new w (.cells #[.int .i64 k, .int .i64 f, .int .i64 t, .int .i64 i, .string (ofL b)] 23))
  go_enter Try.func5, Try.ntmps5
  go_wp2_with fail
  refine (c1 _).mono ?_
  rintro x W3 ⟨rfl, hb1⟩
  have HB3 := Hid_of (bel_up HB0.out hb1 (Nat.le_refl _))
  clear c1 hb1 HB0 HR0
  go_upto_region 8 with fail
  go_wp2_with fail
  refine (c3 _).mono ?_
  rintro x w4 ⟨rfl, hb4⟩
  have HB4 := Hid_of (bel_up HB3.out hb4 (Nat.le_refl _))
  obtain ⟨W5, hW5⟩ : ∃ W, w4.alloc (.cells #[.int .i64 k2, .int .i64 f2, .int .i64 t2, .int .i64 i2, .string b2] 23) = W := ⟨_, rfl⟩
  have HB5 := Hid_of (show Below w.heap.size w W5 by rw [← hW5]; exact bel_up HB4.out (bel1 w4 _) (Nat.le_refl _))
  have HN5 := Hid_of (show W5.heap[w4.heap.size]? = some (.cells #[.int .i64 k2, .int .i64 f2, .int .i64 t2, .int .i64 i2, .string b2] 23 (0, 0)) by rw [← hW5]; exact heap_alloc_new w4 _)
  have HW5 := Hid_of hW5
  clear c3 hb4 hW5 HB3 HB4
  go_upto_region 9 with fail
  rw [HW5.out]
  clear HW5
  generalize w4.heap.size = n2 at *
  obtain ⟨⟨x0, x1, x2, x3, x4⟩, -⟩ := row5 HN5.out
  clear HN5
  go_wp2_with fail
  refine (c4 _).mono ?_
  rintro x w6 ⟨rfl, hb6⟩
  have HB6 := Hid_of (bel_up HB5.out hb6 (Nat.le_refl _))
  clear c4 hb6 HB5 x0 x1 x2 x3 x4
  go_wp2_with fail
  refine (awake_any _).mono ?_
  rintro x w7 ⟨rfl, hb7⟩
  have HB7 := Hid_of (bel_up HB6.out hb7 (Nat.le_refl _))
  clear hb7
  go_wp2
  go_ret
  exact ⟨rfl, HB7.out⟩
set_option maxRecDepth 100000 in
set_option maxHeartbeats 400000 in
theorem back_00 (k f t i : Int) (b : List UInt8) (s : ByteArray) (w : World) (hs : s.size ≤ 10000) (k2 f2 t2 i2 : Int) (b2 : ByteArray) (A : ByteArray) (c : Int) (hc : c ≠ 0) (c1 : ∀ W, Calls Try.prog 7 #[.agg #[.int .i64 k, .int .i64 f, .int .i64 t, .int .i64 i, .string (ofL b)]] W fun e w' => e = .returned (.tuple #[.string A, .int .i64 c]) ∧ Below W.heap.size W w') (d : Int) (hd : d ≠ 0) (c3 : ∀ W, Calls Try.prog 12 #[.string s] W fun e w' => e = .returned (.tuple #[.agg #[.int .i64 k2, .int .i64 f2, .int .i64 t2, .int .i64 i2, .string b2], .int .i64 d]) ∧ Below W.heap.size W w') :
    Calls Try.prog 5 #[.agg #[.int .i64 k, .int .i64 f, .int .i64 t, .int .i64 i, .string (ofL b)], .string s] w fun e w' => e = .returned (.bool true) ∧ Below w.heap.size w w' := by
  have d1 : decide ((10000 : Int) < (s.size : Int)) = false := by simp; omega
  have d2 : (c == 0) = false := by simpa using hc
  have d2' : (c = 0) = False := by simpa using hc
  have d3 : (d == 0) = false := by simpa using hd
  have d3' : (d = 0) = False := by simpa using hd
  have HB0 := Hid_of (bel1 w (.cells #[.int .i64 k, .int .i64 f, .int .i64 t, .int .i64 i, .string (ofL b)] 23))
  have HR0 := Hid_of (heap_alloc_new w (.cells #[.int .i64 k, .int .i64 f, .int .i64 t, .int .i64 i, .string (ofL b)] 23))
  go_enter Try.func5, Try.ntmps5
  go_wp2_with fail
  refine (c1 _).mono ?_
  rintro x W3 ⟨rfl, hb1⟩
  have HB3 := Hid_of (bel_up HB0.out hb1 (Nat.le_refl _))
  clear c1 hb1 HB0 HR0
  go_upto_region 8 with fail
  go_wp2_with fail
  refine (c3 _).mono ?_
  rintro x w4 ⟨rfl, hb4⟩
  have HB4 := Hid_of (bel_up HB3.out hb4 (Nat.le_refl _))
  obtain ⟨w6, hW5⟩ : ∃ W, w4.alloc (.cells #[.int .i64 k2, .int .i64 f2, .int .i64 t2, .int .i64 i2, .string b2] 23) = W := ⟨_, rfl⟩
  have HB6 := Hid_of (show Below w.heap.size w w6 by rw [← hW5]; exact bel_up HB4.out (bel1 w4 _) (Nat.le_refl _))
  have HW5 := Hid_of hW5
  clear c3 hb4 hW5 HB3 HB4
  go_upto_region 9 with fail
  rw [HW5.out]
  clear HW5
  go_wp2_with fail
  refine (awake_any _).mono ?_
  rintro x w7 ⟨rfl, hb7⟩
  have HB7 := Hid_of (bel_up HB6.out hb7 (Nat.le_refl _))
  clear hb7
  go_wp2
  go_ret
  exact ⟨rfl, HB7.out⟩
set_option maxRecDepth 100000 in
set_option maxHeartbeats 400000 in
theorem back_walk (k f t i : Int) (b : List UInt8) (s : ByteArray) (w : World) (hb : b.length ≤ maxLen) (hs : s.size ≤ maxLen) :
    Calls Try.prog 5 #[.agg #[.int .i64 k, .int .i64 f, .int .i64 t, .int .i64 i, .string (ofL b)], .string s] w fun e w' => e = .returned (.bool true) ∧ Below w.heap.size w w' := by
  by_cases hl : 10000 < s.size
  · have d1 : decide ((10000 : Int) < (s.size : Int)) = true := by simp; omega
    have HB0 := Hid_of (bel1 w (.cells #[.int .i64 k, .int .i64 f, .int .i64 t, .int .i64 i, .string (ofL b)] 23))
    go_enter Try.func5, Try.ntmps5
    go_wp2_with fail
    refine (awake_any _).mono ?_
    rintro x w1 ⟨rfl, hb1⟩
    have HB1 := Hid_of (bel_up HB0.out hb1 (Nat.le_refl _))
    clear hb1
    go_wp2
    go_ret
    exact ⟨rfl, HB1.out⟩
  · by_cases h1 : Msg.chk k f t i b.length = 0
    · by_cases h2 : Msg.dcode s = 0
      · refine back_11 k f t i b s w (by omega) _ _ _ _ _ _ (fun W => encode_ok k f t i b W h1) (back_is k f t i b h1) (fun W => ?_) (only_is s h2)
        have := decode_is s (by omega) W
        rwa [h2] at this
      · exact back_10 k f t i b s w (by omega) _ _ _ _ _ _ (fun W => encode_ok k f t i b W h1) (back_is k f t i b h1) _ h2 (fun W => decode_is s (by omega) W)
    · by_cases h2 : Msg.dcode s = 0
      · refine back_01 k f t i b s w (by omega) _ _ _ _ _ _ _ h1 (fun W => encode_any k f t i b W hb) (fun W => ?_) (only_is s h2)
        have := decode_is s (by omega) W
        rwa [h2] at this
      · exact back_00 k f t i b s w (by omega) _ _ _ _ _ _ _ h1 (fun W => encode_any k f t i b W hb) _ h2 (fun W => decode_is s (by omega) W)
end Go.Proofs.Ytdnaacbfhjcjbaa
