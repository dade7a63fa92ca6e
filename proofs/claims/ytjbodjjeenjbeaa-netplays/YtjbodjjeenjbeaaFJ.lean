/-
  The message whose bytes a text is, as the document has it.
-/
import Derived.Test.YtjbodjjeenjbeaaFI
namespace Go.Proofs.Ytjbodjjeenjbeaa
open Go.RowKit
set_option linter.unusedVariables false

set_option maxRecDepth 100000 in
set_option maxHeartbeats 400000 in
theorem refDecode_bad (s : ByteArray) (w : World) (hs : s.size ≤ 1000000) (he : (openOut s).2 ≠ 0) :
    Calls Try.prog 31 #[.string s] w fun e w' => e = .returned (dval s) ∧ Below w.heap.size w w' := by
  have HD := Hid_of (dval_no s _ (dcode_bad s he) he)
  have d1 : ((openOut s).2 != 0) = true := by simpa using he
  have cc := refOpen_any s (w.alloc (.cells #[.int .i64 0, .int .i64 0, .int .i64 0, .int .i64 0, .string { data := #[] }] 33)) (by omega)
  generalize (openOut s).1 = T at *
  generalize (openOut s).2 = c at *
  clear he
  go_enter Try.func31, Try.ntmps31
  go_wp2_with fail
  refine cc.mono ?_
  rintro x w1 ⟨rfl, hb1⟩
  have hrow : w1.heap[w.heap.size]? = some (.cells #[.int .i64 0, .int .i64 0, .int .i64 0, .int .i64 0, .string { data := #[] }] 33 (0, 0)) := bel_row (heap_alloc_new w _) hb1
  obtain ⟨⟨c0, c1, c2, c3, c4⟩, hf⟩ := row5 hrow
  have f0 := hf 0
  have f1 := hf 1
  have f2 := hf 2
  have f3 := hf 3
  have f4 := hf 4
  have HR := Hid_of hrow
  have HB := Hid_of (bel_up (bel1 w _) hb1 (Nat.le_refl _))
  clear cc hb1 hrow hf
  go_wp2
  refine bodyPost_ret (v := dval s) ?_ rfl ⟨rfl, put5_bel HB.out (Nat.le_refl _) _ _ _ _ _⟩
  rw [HD.out]
  exact res5 f31_res _ _ w.heap.size _ _ _ _ _ rfl (put5_row HR.out _ _ _ _ _)
/-- Two blocks, behind what lay there: the answer's, and the reader's. -/
structure DR (w : World) (p : Nat) (A : Value) (q : Value) (W : World) : Prop where
  res : W.heap[w.heap.size]? = some (.cells #[.int .i64 0, .int .i64 0, .int .i64 0, .int .i64 0, .string { data := #[] }] 33 (0, 0))
  row : W.heap[p]? = some (.cells #[A, q] 101 (0, 0))
  bel : Below w.heap.size w W
  lt : w.heap.size < p
theorem DR.up {w : World} {p : Nat} {A q : Value} {W W' : World} (h : DR w p A q W) (hb : Below W.heap.size W W') : DR w p A q W' := ⟨bel_row h.res hb, bel_row h.row hb, bel_up h.bel hb (Nat.le_refl _), h.lt⟩
theorem DR.put {w : World} {p : Nat} {A q : Value} {W : World} (h : DR w p A q W) (A' q' : Value) : DR w p A' q' ((W.setCell ⟨p, 0, none⟩ A').setCell ⟨p, 1, none⟩ q') := by
  have hl := h.lt
  exact ⟨(rowoth W p _ _ _ (by omega)).trans h.res, rowset h.row _ _, (h.bel.setCell (show w.heap.size ≤ p by omega) _).setCell (show w.heap.size ≤ p by omega) _, hl⟩
/-- The three ways out, by what was read. -/
def rval (s : ByteArray) (c e : Int) (k f t i : Int) (B : ByteArray) : Prop := (c ≠ 0 → dval s = .tuple #[.agg #[.int .i64 0, .int .i64 0, .int .i64 0, .int .i64 0, .string (ofL [])], .int .i64 3]) ∧ (c = 0 → e ≠ 0 → dval s = .tuple #[.agg #[.int .i64 0, .int .i64 0, .int .i64 0, .int .i64 0, .string (ofL [])], .int .i64 3]) ∧ (c = 0 → e = 0 → dval s = .tuple #[.agg #[.int .i64 k, .int .i64 f, .int .i64 t, .int .i64 i, .string B], .int .i64 0])
set_option maxRecDepth 100000 in
set_option maxHeartbeats 600000 in
theorem refDecode_walk (s : ByteArray) (w : World) (T L1 L2 L3 L4 L5 B : ByteArray) (b1 b2 b3 b4 b5 : Bool) (k f t i c e : Int)
    (co : ∀ W, Calls Try.prog 50 #[.string s] W fun x w' => x = .returned (.tuple #[.string T, .int .i64 0]) ∧ Below W.heap.size W w')
    (c1 : ∀ W, Calls Try.prog 51 #[.agg #[.string T, .bool false]] W fun x w' => x = .returned (.tuple #[.agg #[.string L1, .bool b1], .int .i64 k]) ∧ Below W.heap.size W w')
    (c2 : ∀ W, Calls Try.prog 51 #[.agg #[.string L1, .bool b1]] W fun x w' => x = .returned (.tuple #[.agg #[.string L2, .bool b2], .int .i64 f]) ∧ Below W.heap.size W w')
    (c3 : ∀ W, Calls Try.prog 51 #[.agg #[.string L2, .bool b2]] W fun x w' => x = .returned (.tuple #[.agg #[.string L3, .bool b3], .int .i64 t]) ∧ Below W.heap.size W w')
    (c4 : ∀ W, Calls Try.prog 52 #[.agg #[.string L3, .bool b3]] W fun x w' => x = .returned (.tuple #[.agg #[.string L4, .bool b4], .int .i64 i]) ∧ Below W.heap.size W w')
    (c5 : ∀ W, Calls Try.prog 53 #[.agg #[.string L4, .bool b4]] W fun x w' => x = .returned (.tuple #[.agg #[.string L5, .bool b5], .string B]) ∧ Below W.heap.size W w')
    (c6 : ∀ W, Calls Try.prog 54 #[.agg #[.string L5, .bool b5]] W fun x w' => x = .returned (.int .i64 c) ∧ Below W.heap.size W w')
    (c7 : ∀ W, Calls Try.prog 41 #[.agg #[.int .i64 k, .int .i64 f, .int .i64 t, .int .i64 i, .string B]] W fun x w' => x = .returned (.int .i64 e) ∧ Below W.heap.size W w')
    (hv : rval s c e k f t i B) :
    Calls Try.prog 31 #[.string s] w fun e w' => e = .returned (dval s) ∧ Below w.heap.size w w' := by
  have HV := Hid_of hv
  clear hv
  go_enter Try.func31, Try.ntmps31
  go_wp2_with fail
  refine (co _).mono ?_
  rintro x w1 ⟨rfl, hb1⟩
  have HRes1 := Hid_of (bel_row (heap_alloc_new w (.cells #[.int .i64 0, .int .i64 0, .int .i64 0, .int .i64 0, .string { data := #[] }] 33)) hb1)
  have HB1 := Hid_of (bel_up (bel1 w (.cells #[.int .i64 0, .int .i64 0, .int .i64 0, .int .i64 0, .string { data := #[] }] 33)) hb1 (Nat.le_refl _))
  obtain ⟨W1, hW1⟩ : ∃ W1, w1.alloc (.cells #[.string T, .bool false] 101) = W1 := ⟨_, rfl⟩
  have HD1 : Hid (DR w w1.heap.size (.string T) (.bool false) W1) := Hid_of (show DR w w1.heap.size (.string T) (.bool false) W1 from ⟨by rw [← hW1]; exact bel_row HRes1.out (bel1 w1 _), by rw [← hW1]; exact heap_alloc_new w1 _, by rw [← hW1]; exact bel_up HB1.out (bel1 w1 _) (Nat.le_refl _), (Array.getElem?_eq_some_iff.1 HRes1.out).1⟩)
  have HW1 := Hid_of hW1
  clear co hb1 hW1 HRes1 HB1
  go_upto_region 5 with fail
  rw [HW1.out]
  clear HW1
  generalize w1.heap.size = p at *
  obtain ⟨g0, g1, -, -⟩ := row2 HD1.out.row
  go_wp2_with fail
  refine (c1 _).mono ?_
  rintro x u1 ⟨rfl, hb⟩
  have hU := HD1.out.up hb
  obtain ⟨j0, j1, k0, k1⟩ := row2 hU.row
  obtain ⟨W2, hW⟩ : ∃ W, (u1.setCell ⟨p, 0, none⟩ (.string L1)).setCell ⟨p, 1, none⟩ (.bool b1) = W := ⟨_, rfl⟩
  have HD2 : Hid (DR w p (.string L1) (.bool b1) W2) := Hid_of (show DR w p (.string L1) (.bool b1) W2 by rw [← hW]; exact hU.put _ _)
  have HW := Hid_of hW
  clear c1 hb hU hW HD1 g0 g1
  go_upto_region 6 with fail
  rw [HW.out]
  clear HW j0 j1 k0 k1
  obtain ⟨g0, g1, -, -⟩ := row2 HD2.out.row
  go_wp2_with fail
  refine (c2 _).mono ?_
  rintro x u2 ⟨rfl, hb⟩
  have hU := HD2.out.up hb
  obtain ⟨j0, j1, k0, k1⟩ := row2 hU.row
  obtain ⟨W3, hW⟩ : ∃ W, (u2.setCell ⟨p, 0, none⟩ (.string L2)).setCell ⟨p, 1, none⟩ (.bool b2) = W := ⟨_, rfl⟩
  have HD3 : Hid (DR w p (.string L2) (.bool b2) W3) := Hid_of (show DR w p (.string L2) (.bool b2) W3 by rw [← hW]; exact hU.put _ _)
  have HW := Hid_of hW
  clear c2 hb hU hW HD2 g0 g1
  go_upto_region 7 with fail
  rw [HW.out]
  clear HW j0 j1 k0 k1
  obtain ⟨g0, g1, -, -⟩ := row2 HD3.out.row
  go_wp2_with fail
  refine (c3 _).mono ?_
  rintro x u3 ⟨rfl, hb⟩
  have hU := HD3.out.up hb
  obtain ⟨j0, j1, k0, k1⟩ := row2 hU.row
  obtain ⟨W4, hW⟩ : ∃ W, (u3.setCell ⟨p, 0, none⟩ (.string L3)).setCell ⟨p, 1, none⟩ (.bool b3) = W := ⟨_, rfl⟩
  have HD4 : Hid (DR w p (.string L3) (.bool b3) W4) := Hid_of (show DR w p (.string L3) (.bool b3) W4 by rw [← hW]; exact hU.put _ _)
  have HW := Hid_of hW
  clear c3 hb hU hW HD3 g0 g1
  go_upto_region 8 with fail
  rw [HW.out]
  clear HW j0 j1 k0 k1
  obtain ⟨g0, g1, -, -⟩ := row2 HD4.out.row
  go_wp2_with fail
  refine (c4 _).mono ?_
  rintro x u4 ⟨rfl, hb⟩
  have hU := HD4.out.up hb
  obtain ⟨j0, j1, k0, k1⟩ := row2 hU.row
  obtain ⟨W5, hW⟩ : ∃ W, (u4.setCell ⟨p, 0, none⟩ (.string L4)).setCell ⟨p, 1, none⟩ (.bool b4) = W := ⟨_, rfl⟩
  have HD5 : Hid (DR w p (.string L4) (.bool b4) W5) := Hid_of (show DR w p (.string L4) (.bool b4) W5 by rw [← hW]; exact hU.put _ _)
  have HW := Hid_of hW
  clear c4 hb hU hW HD4 g0 g1
  go_upto_region 9 with fail
  rw [HW.out]
  clear HW j0 j1 k0 k1
  obtain ⟨g0, g1, -, -⟩ := row2 HD5.out.row
  go_wp2_with fail
  refine (c5 _).mono ?_
  rintro x u5 ⟨rfl, hb⟩
  have hU := HD5.out.up hb
  obtain ⟨j0, j1, k0, k1⟩ := row2 hU.row
  obtain ⟨W6, hW⟩ : ∃ W, (u5.setCell ⟨p, 0, none⟩ (.string L5)).setCell ⟨p, 1, none⟩ (.bool b5) = W := ⟨_, rfl⟩
  have HD6 : Hid (DR w p (.string L5) (.bool b5) W6) := Hid_of (show DR w p (.string L5) (.bool b5) W6 by rw [← hW]; exact hU.put _ _)
  have HW := Hid_of hW
  clear c5 hb hU hW HD5 g0 g1
  go_upto_region 10 with fail
  rw [HW.out]
  clear HW j0 j1 k0 k1
  obtain ⟨g0, g1, -, -⟩ := row2 HD6.out.row
  obtain ⟨W7, hW⟩ : ∃ W, W6.alloc (.cells #[.int .i64 k, .int .i64 f, .int .i64 t, .int .i64 i, .string B] 33) = W := ⟨_, rfl⟩
  have HD7 : Hid (DR w p (.string L5) (.bool b5) W7) := Hid_of (show DR w p (.string L5) (.bool b5) W7 by rw [← hW]; exact HD6.out.up (bel1 W6 _))
  have HM7 := Hid_of (show W7.heap[W6.heap.size]? = some (.cells #[.int .i64 k, .int .i64 f, .int .i64 t, .int .i64 i, .string B] 33 (0, 0)) by rw [← hW]; exact heap_alloc_new W6 _)
  have HW := Hid_of hW
  clear hW HD6 g0 g1
  go_upto_region 11 with fail
  rw [HW.out]
  clear HW
  generalize W6.heap.size = m at *
  obtain ⟨g0, g1, -, -⟩ := row2 HD7.out.row
  by_cases h1 : c = 0
  · by_cases h2 : e = 0
    · have HQ := Hid_of (HV.out.2.2 h1 h2)
      subst h1 h2
      clear HV
      go_wp2_with fail
      refine (c6 _).mono ?_
      rintro x w4 ⟨rfl, hb4⟩
      have HD4 := Hid_of (HD7.out.up hb4)
      have HM4 := Hid_of (bel_row HM7.out hb4)
      obtain ⟨⟨y0, y1, y2, y3, y4⟩, -⟩ := row5 HM4.out
      clear c6 hb4 g0 g1 HD7 HM7
      go_wp2_with fail
      refine (c7 _).mono ?_
      rintro x w5 ⟨rfl, hb5⟩
      have HB := Hid_of (HD4.out.up hb5).bel
      have HR := Hid_of (HD4.out.up hb5).res
      have HM := Hid_of (bel_row HM4.out hb5)
      clear hb5 c7 HD4 HM4 y0 y1 y2 y3 y4
      obtain ⟨⟨y0, y1, y2, y3, y4⟩, -⟩ := row5 HM.out
      obtain ⟨⟨v0, v1, v2, v3, v4⟩, hfr⟩ := row5 HR.out
      have f0 := hfr 0
      have f1 := hfr 1
      have f2 := hfr 2
      have f3 := hfr 3
      have f4 := hfr 4
      clear hfr HM
      go_wp2
      refine bodyPost_ret (v := dval s) ?_ rfl ⟨rfl, put5_bel HB.out (Nat.le_refl _) _ _ _ _ _⟩
      rw [HQ.out]
      exact res5 f31_res _ _ w.heap.size _ _ _ _ _ rfl (put5_row HR.out _ _ _ _ _)
    · have HQ := Hid_of (HV.out.2.1 h1 h2)
      have d2 : (e != 0) = true := by simpa using h2
      subst h1
      clear HV h2
      go_wp2_with fail
      refine (c6 _).mono ?_
      rintro x w4 ⟨rfl, hb4⟩
      have HD4 := Hid_of (HD7.out.up hb4)
      have HM4 := Hid_of (bel_row HM7.out hb4)
      obtain ⟨⟨y0, y1, y2, y3, y4⟩, -⟩ := row5 HM4.out
      clear c6 hb4 g0 g1 HD7 HM7
      go_wp2_with fail
      refine (c7 _).mono ?_
      rintro x w5 ⟨rfl, hb5⟩
      have HB := Hid_of (HD4.out.up hb5).bel
      have HR := Hid_of (HD4.out.up hb5).res
      clear hb5 c7 HD4 HM4 y0 y1 y2 y3 y4
      obtain ⟨⟨v0, v1, v2, v3, v4⟩, hfr⟩ := row5 HR.out
      have f0 := hfr 0
      have f1 := hfr 1
      have f2 := hfr 2
      have f3 := hfr 3
      have f4 := hfr 4
      clear hfr
      go_wp2
      refine bodyPost_ret (v := dval s) ?_ rfl ⟨rfl, put5_bel HB.out (Nat.le_refl _) _ _ _ _ _⟩
      rw [HQ.out]
      exact res5 f31_res _ _ w.heap.size _ _ _ _ _ rfl (put5_row HR.out _ _ _ _ _)
  · have HQ := Hid_of (HV.out.1 h1)
    have d2 : (c != 0) = true := by simpa using h1
    clear HV h1
    go_wp2_with fail
    refine (c6 _).mono ?_
    rintro x w4 ⟨rfl, hb4⟩
    have HB := Hid_of (HD7.out.up hb4).bel
    have HR := Hid_of (HD7.out.up hb4).res
    clear c6 hb4 g0 g1 HD7 HM7
    obtain ⟨⟨v0, v1, v2, v3, v4⟩, hfr⟩ := row5 HR.out
    have f0 := hfr 0
    have f1 := hfr 1
    have f2 := hfr 2
    have f3 := hfr 3
    have f4 := hfr 4
    clear hfr
    go_wp2
    refine bodyPost_ret (v := dval s) ?_ rfl ⟨rfl, put5_bel HB.out (Nat.le_refl _) _ _ _ _ _⟩
    rw [HQ.out]
    exact res5 f31_res _ _ w.heap.size _ _ _ _ _ rfl (put5_row HR.out _ _ _ _ _)
theorem tb_st (st : Option (List UInt8)) (hl : (lft st).length ≤ 1000000) (w : World) : Calls Try.prog 51 #[.agg #[.string (ofL (lft st)), .bool st.isNone]] w fun x w' => x = .returned (.tuple #[.agg #[.string (ofL (lft (nx (M.byte (lft st))))), .bool (nx (M.byte (lft st))).isNone], .int .i64 (vl 0 (M.byte (lft st)))]) ∧ Below w.heap.size w w' := takeByte_any (lft st) st.isNone w (by omega)
theorem ti_st (st : Option (List UInt8)) (hl : (lft st).length ≤ 1000000) (w : World) : Calls Try.prog 52 #[.agg #[.string (ofL (lft st)), .bool st.isNone]] w fun x w' => x = .returned (.tuple #[.agg #[.string (ofL (lft (nx (M.int (lft st))))), .bool (nx (M.int (lft st))).isNone], .int .i64 (vl 0 (M.int (lft st)))]) ∧ Below w.heap.size w w' := takeInt_any (lft st) st.isNone w (by omega)
theorem tt_st (st : Option (List UInt8)) (hl : (lft st).length ≤ 1000000) (w : World) : Calls Try.prog 53 #[.agg #[.string (ofL (lft st)), .bool st.isNone]] w fun x w' => x = .returned (.tuple #[.agg #[.string (ofL (lft (nx (M.text (lft st))))), .bool (nx (M.text (lft st))).isNone], .string (ofL (vl [] (M.text (lft st))))]) ∧ Below w.heap.size w w' := takeText_any (lft st) st.isNone w (by omega)
theorem refDecode_any (s : ByteArray) (w : World) (hs : s.size ≤ 1000000) :
    Calls Try.prog 31 #[.string s] w fun e w' => e = .returned (dval s) ∧ Below w.heap.size w w' := by
  by_cases he : (openOut s).2 = 0
  · have hl : (Msg.body s).length ≤ 1000000 := Nat.le_trans (Msg.body_le s) hs
    have co := fun W => refOpen_any s W (by omega)
    rw [body_of, he] at co
    have h1 := fun hg => dval_no s 3 (dcode_3 s he hg) (by decide)
    have h0 := fun hg => dval_yes s (dcode_0 s he hg)
    have c7 := fun W => refCheck_any (Msg.rk (Msg.body s)) (Msg.rf (Msg.body s)) (Msg.rt (Msg.body s)) (Msg.ri (Msg.body s)) (ofL (Msg.rb (Msg.body s))) W (by rw [ofL_size]; unfold maxLen; exact Nat.le_trans (Msg.rb_le _) (by omega))
    rw [ofL_size] at c7
    exact refDecode_walk s w _ _ _ _ _ _ _ _ _ _ _ _ _ _ _ _ _ _ co
      (fun W => tb_st (some (Msg.body s)) hl W)
      (fun W => tb_st (Msg.s1 (Msg.body s)) (Nat.le_trans (Msg.s1_le _) hl) W)
      (fun W => tb_st (Msg.s2 (Msg.body s)) (Nat.le_trans (Msg.s2_le _) hl) W)
      (fun W => ti_st (Msg.s3 (Msg.body s)) (Nat.le_trans (Msg.s3_le _) hl) W)
      (fun W => tt_st (Msg.s4 (Msg.body s)) (Nat.le_trans (Msg.s4_le _) hl) W)
      (fun W => end_any (Msg.s5 (Msg.body s)) W) c7
      ⟨fun h => h1 (good_no1 _ h), fun _ h => h1 (good_no2 _ h), fun h h' => h0 (good_yes _ h h')⟩
  · exact refDecode_bad s w hs he
end Go.Proofs.Ytjbodjjeenjbeaa
