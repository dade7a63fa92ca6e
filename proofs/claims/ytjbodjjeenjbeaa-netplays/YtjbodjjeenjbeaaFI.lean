/-
  Decode, where the sum is right.
-/
import Derived.Test.YtjbodjjeenjbeaaFH
namespace Go.Proofs.Ytjbodjjeenjbeaa
open Go.RowKit
set_option linter.unusedVariables false

theorem good_no1 (l : List UInt8) (h : rdone (Msg.s5 l) ≠ 0) : Msg.good l = false := by unfold Msg.good; rw [decide_eq_false h]; rfl
theorem good_no2 (l : List UInt8) (h : Msg.chk (Msg.rk l) (Msg.rf l) (Msg.rt l) (Msg.ri l) (Msg.rb l).length ≠ 0) : Msg.good l = false := by unfold Msg.good; rw [decide_eq_false h, Bool.and_false]
theorem good_yes (l : List UInt8) (h : rdone (Msg.s5 l) = 0) (h2 : Msg.chk (Msg.rk l) (Msg.rf l) (Msg.rt l) (Msg.ri l) (Msg.rb l).length = 0) : Msg.good l = true := by unfold Msg.good; rw [decide_eq_true h, decide_eq_true h2]; rfl
theorem sts_le (l : List UInt8) (j : Nat) : (lft (Msg.sts l j)).length ≤ l.length := by
  match j with
  | 0 => exact Nat.le_refl _
  | 1 => exact Msg.s1_le l
  | 2 => exact Msg.s2_le l
  | 3 => exact Msg.s3_le l
  | 4 => exact Msg.s4_le l
  | j + 5 => exact Msg.s5_le l
set_option maxRecDepth 100000 in
set_option maxHeartbeats 600000 in
theorem decode_open (s : ByteArray) (w : World) (hs : s.size ≤ 1000000) (he : (openOut s).2 = 0) :
    Calls Try.prog 35 #[.string s] w fun e w' => e = .returned (dval s) ∧ Below w.heap.size w w' := by
  have HG1 : Hid (Msg.good (Msg.body s) = false → Msg.dcode s = 3) := fun hg => dcode_3 s he hg
  have HG0 : Hid (Msg.good (Msg.body s) = true → Msg.dcode s = 0) := fun hg => dcode_0 s he hg
  have cc := open_any s (w.alloc (.cells #[.int .i64 0, .int .i64 0, .int .i64 0, .int .i64 0, .string { data := #[] }] 33)) (by omega)
  rw [body_of, he] at cc
  have hbl := Msg.body_le s
  obtain ⟨l, hl⟩ : ∃ l, Msg.body s = l := ⟨_, rfl⟩
  rw [hl] at cc hbl HG1 HG0
  have HL := Hid_of hl
  have hll : l.length ≤ 1000000 := by omega
  clear hl hbl he
  go_enter Try.func35, Try.ntmps35
  go_wp2_with fail
  refine cc.mono ?_
  rintro x w1 ⟨rfl, hb1⟩
  have HRes1 := Hid_of (bel_row (heap_alloc_new w (.cells #[.int .i64 0, .int .i64 0, .int .i64 0, .int .i64 0, .string { data := #[] }] 33)) hb1)
  have HB1 := Hid_of (bel_up (bel1 w (.cells #[.int .i64 0, .int .i64 0, .int .i64 0, .int .i64 0, .string { data := #[] }] 33)) hb1 (Nat.le_refl _))
  obtain ⟨W1, hW1⟩ : ∃ W1, w1.alloc (.cells #[.int .i64 0, .int .i64 0, .int .i64 0, .int .i64 0, .string { data := #[] }] 33) = W1 := ⟨_, rfl⟩
  have HBB := Hid_of (show Below w1.heap.size w1 W1 by rw [← hW1]; exact bel1 w1 _)
  have HM1 := Hid_of (show W1.heap[w1.heap.size]? = some (.cells #[.int .i64 0, .int .i64 0, .int .i64 0, .int .i64 0, .string { data := #[] }] 33 (0, 0)) by rw [← hW1]; exact heap_alloc_new w1 _)
  have HW1 := Hid_of hW1
  clear cc hb1 hW1
  go_upto_region 5 with fail
  rw [HW1.out]
  go_wp2_with fail
  refine (newReader_any l W1 (by omega)).mono ?_
  rintro x w2 ⟨b, rfl, hb2, hr2, hB2⟩
  have HP : Hid (w.heap.size < w1.heap.size ∧ w1.heap.size < W1.heap.size ∧ W1.heap.size ≤ b ∧ b < w2.heap.size) := ⟨(Array.getElem?_eq_some_iff.1 HRes1.out).1, (Array.getElem?_eq_some_iff.1 HM1.out).1, hb2, hr2.lt⟩
  have HR2 := Hid_of hr2
  have HB2 := Hid_of hB2
  clear hb2 hr2 hB2
  go_wp2_with fail
  refine (fieldsOf_any w1.heap.size w2).mono ?_
  rintro x w3 ⟨g, rfl, hg, hrow, hB3⟩
  have HD : Hid (DL w l w1.heap.size b g 0 w3) := Hid_of (show DL w l w1.heap.size b g 0 w3 from by
    have hp := HP.out
    have hB13 := bel_up (bel_up HBB.out HB2.out (Nat.le_refl _)) hB3 (Nat.le_refl _)
    exact ⟨HR2.out.below hB3, bel_row (bel_row HM1.out HB2.out) hB3, hrow, bel_row HRes1.out hB13, bel_up HB1.out hB13 (Nat.le_refl _), by omega, by omega, by omega, by omega, by omega, by omega⟩)
  clear hg hrow hB3 HBB HM1 HW1 HP HR2 HB2 HRes1 HB1
  generalize w1.heap.size = p at *
  go_wp2
  go_loopw [23] (fun n wr => ∃ j : Nat, j ≤ 5 ∧ n = .int .i64 j ∧ DL w l p b g j wr) (fun n _ => 5 - (intOf n).toNat)
  case atStart => exact ⟨0, by omega, rfl, HD.out⟩
  case round =>
    obtain ⟨j, hj, rfl, hE⟩ := hrel
    clear HD
    obtain ⟨q0, q1, q2, q3, q4⟩ := fvs_row hE.fld
    have hln := sts_le l j
    have HS := Hid_of hE
    have hj' : j = 0 ∨ j = 1 ∨ j = 2 ∨ j = 3 ∨ j = 4 ∨ j = 5 := by omega
    rcases hj' with rfl | rfl | rfl | rfl | rfl | rfl
    · have cc := readByte_any p 0 b _ _ wr hE.rs (by omega) hE.row (by simp [mrow]) hE.ne.2.2.2.1
      clear hE hln q1 q2 q3 q4
      go_wp2_with fail
      refine cc.mono ?_
      rintro x w4 ⟨rfl, hr4, hp4, hd4⟩
      have HN : Hid (DL w l p b g 1 w4) := Hid_of (HS.out.next hr4 hp4 hd4 rfl rfl)
      clear cc hr4 hp4 hd4 q0 HS
      go_wp2
      go_roundw
      case rel => exact ⟨1, by omega, by go_num, HN.out⟩
      case measure => simp [intOf]
    · have cc := readByte_any p 1 b _ _ wr hE.rs (by omega) hE.row (by simp [mrow]) hE.ne.2.2.2.1
      clear hE hln q0 q2 q3 q4
      go_wp2_with fail
      refine cc.mono ?_
      rintro x w4 ⟨rfl, hr4, hp4, hd4⟩
      have HN : Hid (DL w l p b g 2 w4) := Hid_of (HS.out.next hr4 hp4 hd4 rfl rfl)
      clear cc hr4 hp4 hd4 q1 HS
      go_wp2
      go_roundw
      case rel => exact ⟨2, by omega, by go_num, HN.out⟩
      case measure => simp [intOf]
    · have cc := readByte_any p 2 b _ _ wr hE.rs (by omega) hE.row (by simp [mrow]) hE.ne.2.2.2.1
      clear hE hln q0 q1 q3 q4
      go_wp2_with fail
      refine cc.mono ?_
      rintro x w4 ⟨rfl, hr4, hp4, hd4⟩
      have HN : Hid (DL w l p b g 3 w4) := Hid_of (HS.out.next hr4 hp4 hd4 rfl rfl)
      clear cc hr4 hp4 hd4 q2 HS
      go_wp2
      go_roundw
      case rel => exact ⟨3, by omega, by go_num, HN.out⟩
      case measure => simp [intOf]
    · have cc := readInt_any p 3 b _ _ wr hE.rs (by omega) hE.row (by simp [mrow]) hE.ne.2.2.2.1
      clear hE hln q0 q1 q2 q4
      go_wp2_with fail
      refine cc.mono ?_
      rintro x w4 ⟨rfl, hr4, hp4, hd4⟩
      have HN : Hid (DL w l p b g 4 w4) := Hid_of (HS.out.next hr4 hp4 hd4 rfl rfl)
      clear cc hr4 hp4 hd4 q3 HS
      go_wp2
      go_roundw
      case rel => exact ⟨4, by omega, by go_num, HN.out⟩
      case measure => simp [intOf]
    · have cc := readText_any p 4 b _ _ wr hE.rs (by omega) hE.row (by simp [mrow]) hE.ne.2.2.2.1
      clear hE hln q0 q1 q2 q3
      go_wp2_with fail
      refine cc.mono ?_
      rintro x w4 ⟨rfl, hr4, hp4, hd4⟩
      have HN : Hid (DL w l p b g 5 w4) := Hid_of (HS.out.next hr4 hp4 hd4 rfl rfl)
      clear cc hr4 hp4 hd4 q4 HS
      go_wp2
      go_roundw
      case rel => exact ⟨5, by omega, by go_num, HN.out⟩
      case measure => simp [intOf]
    · have cc := rdone_any b _ wr hE.rs (by omega)
      obtain ⟨⟨t0, t1, t2, t3, t4⟩, hfr⟩ := row5 hE.res
      obtain ⟨⟨u0, u1, u2, u3, u4⟩, -⟩ := row5 hE.row
      have f0 := hfr 0
      have f1 := hfr 1
      have f2 := hfr 2
      have f3 := hfr 3
      have f4 := hfr 4
      have c5 : rdone (Msg.sts l 5) = rdone (Msg.s5 l) := rfl
      rw [c5] at cc
      clear hE hln q0 q1 q2 q3 q4 c5 hfr
      by_cases h1 : rdone (Msg.s5 l) = 0
      · rw [h1] at cc
        have hch := check_any (Msg.rk l) (Msg.rf l) (Msg.rt l) (Msg.ri l) (ofL (Msg.rb l)) wr (by rw [ofL_size]; unfold maxLen; exact Nat.le_trans (Msg.rb_le l) (by omega))
        rw [ofL_size] at hch
        by_cases h2 : Msg.chk (Msg.rk l) (Msg.rf l) (Msg.rt l) (Msg.ri l) (Msg.rb l).length = 0
        · have HV := Hid_of (dval_yes s (HG0.out (good_yes l h1 h2)))
          rw [HL.out] at HV
          rw [h2] at hch
          clear h1 h2 HG0 HG1 HL
          go_wp2_with fail
          refine cc.mono ?_
          rintro x w4 ⟨rfl, rfl⟩
          clear cc
          go_wp2_with fail
          refine hch.mono ?_
          rintro x w5 ⟨rfl, hb5⟩
          have HB := Hid_of (bel_up HS.out.bel hb5 (Nat.le_refl _))
          have HR := Hid_of (bel_row HS.out.res hb5)
          obtain ⟨⟨v0, v1, v2, v3, v4⟩, hfr⟩ := row5 HR.out
          obtain ⟨⟨y0, y1, y2, y3, y4⟩, -⟩ := row5 (bel_row HS.out.row hb5)
          have g0 := hfr 0
          have g1 := hfr 1
          have g2 := hfr 2
          have g3 := hfr 3
          have g4 := hfr 4
          clear hch hb5 t0 t1 t2 t3 t4 u0 u1 u2 u3 u4 f0 f1 f2 f3 f4 hfr HS
          go_wp2
          refine bodyPost_ret (v := dval s) ?_ rfl ⟨rfl, put5_bel HB.out (Nat.le_refl _) _ _ _ _ _⟩
          rw [HV.out]
          exact res5 f35_res _ _ w.heap.size _ _ _ _ _ rfl (put5_row HR.out _ _ _ _ _)
        · have HV := Hid_of (dval_no s 3 (HG1.out (good_no2 l h2)) (by decide))
          have d2 : (Msg.chk (Msg.rk l) (Msg.rf l) (Msg.rt l) (Msg.ri l) (Msg.rb l).length != 0) = true := by simpa using h2
          generalize Msg.chk (Msg.rk l) (Msg.rf l) (Msg.rt l) (Msg.ri l) (Msg.rb l).length = c at *
          clear h1 h2 HG0 HG1 HL
          go_wp2_with fail
          refine cc.mono ?_
          rintro x w4 ⟨rfl, rfl⟩
          clear cc
          go_wp2_with fail
          refine hch.mono ?_
          rintro x w5 ⟨rfl, hb5⟩
          have HB := Hid_of (bel_up HS.out.bel hb5 (Nat.le_refl _))
          have HR := Hid_of (bel_row HS.out.res hb5)
          obtain ⟨⟨v0, v1, v2, v3, v4⟩, hfr⟩ := row5 HR.out
          have g0 := hfr 0
          have g1 := hfr 1
          have g2 := hfr 2
          have g3 := hfr 3
          have g4 := hfr 4
          clear hch hb5 t0 t1 t2 t3 t4 u0 u1 u2 u3 u4 f0 f1 f2 f3 f4 hfr HS
          go_wp2
          refine bodyPost_ret (v := dval s) ?_ rfl ⟨rfl, put5_bel HB.out (Nat.le_refl _) _ _ _ _ _⟩
          rw [HV.out]
          exact res5 f35_res _ _ w.heap.size _ _ _ _ _ rfl (put5_row HR.out _ _ _ _ _)
      · have HV := Hid_of (dval_no s 3 (HG1.out (good_no1 l h1)) (by decide))
        have d2 : (rdone (Msg.s5 l) != 0) = true := by simpa using h1
        generalize rdone (Msg.s5 l) = c at *
        have HB := Hid_of HS.out.bel
        have HR := Hid_of HS.out.res
        clear h1 HG0 HG1 HL u0 u1 u2 u3 u4 HS
        go_wp2_with fail
        refine cc.mono ?_
        rintro x w4 ⟨rfl, rfl⟩
        clear cc
        go_wp2
        refine bodyPost_ret (v := dval s) ?_ rfl ⟨rfl, put5_bel HB.out (Nat.le_refl _) _ _ _ _ _⟩
        rw [HV.out]
        exact res5 f35_res _ _ w.heap.size _ _ _ _ _ rfl (put5_row HR.out _ _ _ _ _)
theorem decode_any (s : ByteArray) (w : World) (hs : s.size ≤ 1000000) :
    Calls Try.prog 35 #[.string s] w fun e w' => e = .returned (dval s) ∧ Below w.heap.size w w' := by
  by_cases he : (openOut s).2 = 0
  · exact decode_open s w hs he
  · exact decode_bad s w hs he
end Go.Proofs.Ytjbodjjeenjbeaa
