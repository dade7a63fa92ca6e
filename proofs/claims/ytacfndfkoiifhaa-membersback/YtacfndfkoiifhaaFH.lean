/-
  A group of the document's, read of bytes.
-/
import Derived.Test.YtacfndfkoiifhaaFG
import Derived.Test.YtacfndfkoiifhaaJ
namespace Go.Proofs.Ytacfndfkoiifhaa
open Go.RowKit
set_option linter.unusedVariables false
open Mb (S rd1 rd2 rd3 rd4 rd5 rd6)

/-- What the document's Read leaves. -/
def RdD (w : World) (l : List UInt8) (e : Ending) (w' : World) : Prop :=
  Below w.heap.size w w' ∧ ((∃ aL cL aS cS, Mb.Tell l (Mb.rs l) ∧ e = .returned (.tuple #[mV aL cL aS cS (Mb.rs l), .int .i64 0]) ∧ XD w' aL cL aS cS (Mb.rs l)) ∨ ((¬ ∃ s, Mb.Tell l s) ∧ e = .returned (.tuple #[.agg #[.slice none 0 0, .slice none 0 0, .int .i64 0, .int .i64 (-1), .bool false, .int .i64 (-1)], .int .i64 3])))
/-- Amid reading: a result's box, and the reader in a box. -/
structure RdW (w W : World) (s : ByteArray) (q : Bool) : Prop where
  bel : Below w.heap.size w W
  z : W.heap[w.heap.size]? = some (.cells #[.slice none 0 0, .slice none 0 0, .int .i64 0, .int .i64 0, .bool false, .int .i64 0] 31 (0, 0))
  r : W.heap[w.heap.size + 1]? = some (.cells #[.string s, .bool q] 78 (0, 0))
theorem RdW.lt {w W : World} {s : ByteArray} {q : Bool} (h : RdW w W s q) : w.heap.size + 1 < W.heap.size := (Array.getElem?_eq_some_iff.1 h.r).1
theorem RdW.next {w W w1 : World} {s s' : ByteArray} {q q' : Bool} (h : RdW w W s q) (hb : Below W.heap.size W w1) : RdW w ((w1.setCell ⟨w.heap.size + 1, 0, none⟩ (.string s')).setCell ⟨w.heap.size + 1, 1, none⟩ (.bool q')) s' q' :=
  ⟨((bel_up h.bel hb (Nat.le_refl _)).setCell (by show w.heap.size ≤ w.heap.size + 1; omega) _).setCell (by show w.heap.size ≤ w.heap.size + 1; omega) _, (rowoth _ _ _ _ _ (by omega)).trans (bel_row h.z hb), rowset (bel_row h.r hb) _ _⟩
set_option maxRecDepth 100000 in
set_option maxHeartbeats 8000000 in
theorem rread_any (l : List UInt8) (w : World) (hl : l.length ≤ 400000) : Calls Try.prog 26 #[.string (ofL l)] w (RdD w l) := by
  obtain ⟨k1, k2, k3, k4, k5, k6⟩ := rd_len l
  obtain ⟨ml, ms⟩ := rs_len l
  have hbr := byte_rng (lft (nx (rd2 l)))
  have HT := Hid_of (Mb.tell_rs (b := l))
  have HTI : Hid (nx (rd6 l) = some [] → (vl 0 (rd3 l) = 0 ∨ vl 0 (rd3 l) = 1) → Mb.nw (Mb.rs l).l (Mb.rs l).sp → Mb.mb (Mb.rs l) = true → Mb.Tell l (Mb.rs l)) := Hid_of Mb.tell_is
  have HNO : Hid ((¬ ∃ s, Mb.Tell l s) → ∀ w', Below w.heap.size w w' → RdD w l (.returned (.tuple #[.agg #[.slice none 0 0, .slice none 0 0, .int .i64 0, .int .i64 (-1), .bool false, .int .i64 (-1)], .int .i64 3])) w') := Hid_of fun hn w' hb => ⟨hb, .inr ⟨hn, rfl⟩⟩
  have hll : vl [] (rd5 l) = (Mb.rs l).l := rfl
  have hlp : vl [] (rd6 l) = (Mb.rs l).sp := rfl
  have hfl : (Mb.rs l).fl = decide (vl 0 (rd3 l) = 1) := rfl
  have he1 : vl 0 (rd1 l) = (Mb.rs l).ep := rfl
  have he2 : vl 0 (rd2 l) = (Mb.rs l).hole := rfl
  have he4 : vl 0 (rd4 l) = (Mb.rs l).gone := rfl
  have hbr : 0 ≤ vl 0 (rd3 l) ∧ vl 0 (rd3 l) ≤ 255 := hbr
  obtain ⟨s, hrs⟩ : ∃ s, Mb.rs l = s := ⟨_, rfl⟩
  rw [hrs] at HT HTI hll hlp hfl he1 he2 he4 ml ms
  obtain ⟨f, hf⟩ : ∃ f, vl 0 (rd3 l) = f := ⟨_, rfl⟩
  rw [hf] at HT HTI hfl hbr
  obtain ⟨b1, hb1⟩ : ∃ b, ofL (lft (nx (rd1 l))) = b := ⟨_, rfl⟩
  obtain ⟨q1, hq1⟩ : ∃ q, (nx (rd1 l)).isNone = q := ⟨_, rfl⟩
  obtain ⟨b2, hb2⟩ : ∃ b, ofL (lft (nx (rd2 l))) = b := ⟨_, rfl⟩
  obtain ⟨q2, hq2⟩ : ∃ q, (nx (rd2 l)).isNone = q := ⟨_, rfl⟩
  obtain ⟨b3, hb3⟩ : ∃ b, ofL (lft (nx (rd3 l))) = b := ⟨_, rfl⟩
  obtain ⟨q3, hq3⟩ : ∃ q, (nx (rd3 l)).isNone = q := ⟨_, rfl⟩
  obtain ⟨b4, hb4⟩ : ∃ b, ofL (lft (nx (rd4 l))) = b := ⟨_, rfl⟩
  obtain ⟨q4, hq4⟩ : ∃ q, (nx (rd4 l)).isNone = q := ⟨_, rfl⟩
  obtain ⟨b5, hb5⟩ : ∃ b, ofL (lft (nx (rd5 l))) = b := ⟨_, rfl⟩
  obtain ⟨q5, hq5⟩ : ∃ q, (nx (rd5 l)).isNone = q := ⟨_, rfl⟩
  obtain ⟨b6, hb6⟩ : ∃ b, ofL (lft (nx (rd6 l))) = b := ⟨_, rfl⟩
  obtain ⟨q6, hq6⟩ : ∃ q, (nx (rd6 l)).isNone = q := ⟨_, rfl⟩
  have T1 : Hid (∀ W : World, Calls Try.prog 51 #[.agg #[.string (ofL l), .bool false]] W fun x w' => x = .returned (.tuple #[.agg #[.string b1, .bool q1], .int .i64 s.ep]) ∧ Below W.heap.size W w') := Hid_of fun W => by
    have := takeInt_any l false W (by omega)
    rw [← hb1, ← hq1, ← he1]
    exact this
  have T2 : Hid (∀ W : World, Calls Try.prog 51 #[.agg #[.string (b1), .bool q1]] W fun x w' => x = .returned (.tuple #[.agg #[.string b2, .bool q2], .int .i64 s.hole]) ∧ Below W.heap.size W w') := Hid_of fun W => by
    have := takeInt_any (lft (nx (rd1 l))) (nx (rd1 l)).isNone W (by omega)
    rw [hb1, hq1] at this
    rw [← hb2, ← hq2, ← he2]
    exact this
  have T3 : Hid (∀ W : World, Calls Try.prog 52 #[.agg #[.string (b2), .bool q2]] W fun x w' => x = .returned (.tuple #[.agg #[.string b3, .bool q3], .int .i64 f]) ∧ Below W.heap.size W w') := Hid_of fun W => by
    have := takeByte_any (lft (nx (rd2 l))) (nx (rd2 l)).isNone W (by omega)
    rw [hb2, hq2] at this
    rw [← hb3, ← hq3, ← hf]
    exact this
  have T4 : Hid (∀ W : World, Calls Try.prog 51 #[.agg #[.string (b3), .bool q3]] W fun x w' => x = .returned (.tuple #[.agg #[.string b4, .bool q4], .int .i64 s.gone]) ∧ Below W.heap.size W w') := Hid_of fun W => by
    have := takeInt_any (lft (nx (rd3 l))) (nx (rd3 l)).isNone W (by omega)
    rw [hb3, hq3] at this
    rw [← hb4, ← hq4, ← he4]
    exact this
  have T5 : Hid (∀ W : World, Calls Try.prog 53 #[.agg #[.string (b4), .bool q4]] W fun x w' => ∃ v, x = .returned (.tuple #[.agg #[.string b5, .bool q5], v]) ∧ OwnL il 3 w' W.heap.size v s.l ∧ Below W.heap.size W w') := Hid_of fun W => by
    have := takeInts_any (lft (nx (rd4 l))) (nx (rd4 l)).isNone W (by omega)
    rw [hb4, hq4] at this
    rw [← hb5, ← hq5, ← hll]
    exact this.mono fun e w' ⟨v, h1, h2, h3⟩ => ⟨v, h1, own_of h2, h3⟩
  have T6 : Hid (∀ W : World, Calls Try.prog 53 #[.agg #[.string (b5), .bool q5]] W fun x w' => ∃ v, x = .returned (.tuple #[.agg #[.string b6, .bool q6], v]) ∧ OwnL il 3 w' W.heap.size v s.sp ∧ Below W.heap.size W w') := Hid_of fun W => by
    have := takeInts_any (lft (nx (rd5 l))) (nx (rd5 l)).isNone W (by omega)
    rw [hb5, hq5] at this
    rw [← hb6, ← hq6, ← hlp]
    exact this.mono fun e w' ⟨v, h1, h2, h3⟩ => ⟨v, h1, own_of h2, h3⟩
  have T7 : Hid (∀ W : World, Calls Try.prog 54 #[.agg #[.string b6, .bool q6]] W fun x w' => x = .returned (.int .i64 (rdone (nx (rd6 l)))) ∧ Below W.heap.size W w') := Hid_of fun W => by
    have := end_any (nx (rd6 l)) W
    rw [← hb6, ← hq6]
    exact this
  have HRS := Hid_of hrs
  have HFL := Hid_of hfl
  have HBR := Hid_of hbr
  have HML : Hid (s.l.length + s.sp.length ≤ 1000000) := Hid_of (by omega)
  clear k1 k2 k3 k4 k5 k6 hll hlp hfl hf hrs he1 he2 he4 hb1 hb2 hb3 hb4 hb5 hb6 hq1 hq2 hq3 hq4 hq5 hq6 hbr ml ms
  obtain ⟨W1, HW1⟩ : ∃ W1, Hid ((w.alloc (.cells #[.slice none 0 0, .slice none 0 0, .int .i64 0, .int .i64 0, .bool false, .int .i64 0] 31)).alloc (.cells #[.string (ofL l), .bool false] 78) = W1) := ⟨_, rfl⟩
  have H1 : Hid (RdW w W1 (ofL l) false) := Hid_of (by
    rw [← HW1.out]
    refine ⟨bel_up (bel1 w _) (bel1 _ _) (Nat.le_refl _), heap_alloc2_old w _ _, heap_alloc2_new w _ _⟩)
  go_enter Try.func26, Try.ntmps26
  go_upto_region 2 with fail
  rw [HW1.out]
  clear HW1
  obtain ⟨c0, c1, g0, g1⟩ := row2 H1.out.r
  go_wp2_with fail
  refine (T1.out W1).mono ?_
  rintro e v1 ⟨rfl, hbv⟩
  have hr := bel_row H1.out.r hbv
  clear c0 c1 g0 g1 T1
  obtain ⟨c0, c1, g0, g1⟩ := row2 hr
  obtain ⟨W2, hW2⟩ : ∃ W', (v1.setCell ⟨w.heap.size + 1, 0, none⟩ (.string b1)).setCell ⟨w.heap.size + 1, 1, none⟩ (.bool q1) = W' := ⟨_, rfl⟩
  have H2 : Hid (RdW w W2 b1 q1) := Hid_of (by rw [← hW2]; exact H1.out.next hbv)
  have HWN := Hid_of hW2
  clear hW2 hr hbv H1
  go_upto_region 3 with fail
  rw [HWN.out]
  clear HWN c0 c1 g0 g1
  obtain ⟨c0, c1, g0, g1⟩ := row2 H2.out.r
  go_wp2_with fail
  refine (T2.out W2).mono ?_
  rintro e v2 ⟨rfl, hbv⟩
  have hr := bel_row H2.out.r hbv
  clear c0 c1 g0 g1 T2
  obtain ⟨c0, c1, g0, g1⟩ := row2 hr
  obtain ⟨W3, hW3⟩ : ∃ W', (v2.setCell ⟨w.heap.size + 1, 0, none⟩ (.string b2)).setCell ⟨w.heap.size + 1, 1, none⟩ (.bool q2) = W' := ⟨_, rfl⟩
  have H3 : Hid (RdW w W3 b2 q2) := Hid_of (by rw [← hW3]; exact H2.out.next hbv)
  have HWN := Hid_of hW3
  clear hW3 hr hbv H2
  go_upto_region 4 with fail
  rw [HWN.out]
  clear HWN c0 c1 g0 g1
  obtain ⟨c0, c1, g0, g1⟩ := row2 H3.out.r
  go_wp2_with fail
  refine (T3.out W3).mono ?_
  rintro e v3 ⟨rfl, hbv⟩
  have hr := bel_row H3.out.r hbv
  clear c0 c1 g0 g1 T3
  obtain ⟨c0, c1, g0, g1⟩ := row2 hr
  obtain ⟨W4, hW4⟩ : ∃ W', (v3.setCell ⟨w.heap.size + 1, 0, none⟩ (.string b3)).setCell ⟨w.heap.size + 1, 1, none⟩ (.bool q3) = W' := ⟨_, rfl⟩
  have H4 : Hid (RdW w W4 b3 q3) := Hid_of (by rw [← hW4]; exact H3.out.next hbv)
  have HWN := Hid_of hW4
  clear hW4 hr hbv H3
  go_upto_region 5 with fail
  rw [HWN.out]
  clear HWN c0 c1 g0 g1
  obtain ⟨c0, c1, g0, g1⟩ := row2 H4.out.r
  go_wp2_with fail
  refine (T4.out W4).mono ?_
  rintro e v4 ⟨rfl, hbv⟩
  have hr := bel_row H4.out.r hbv
  clear c0 c1 g0 g1 T4
  obtain ⟨c0, c1, g0, g1⟩ := row2 hr
  obtain ⟨W5, hW5⟩ : ∃ W', (v4.setCell ⟨w.heap.size + 1, 0, none⟩ (.string b4)).setCell ⟨w.heap.size + 1, 1, none⟩ (.bool q4) = W' := ⟨_, rfl⟩
  have H5 : Hid (RdW w W5 b4 q4) := Hid_of (by rw [← hW5]; exact H4.out.next hbv)
  have HWN := Hid_of hW5
  clear hW5 hr hbv H4
  go_upto_region 6 with fail
  rw [HWN.out]
  clear HWN c0 c1 g0 g1
  obtain ⟨c0, c1, g0, g1⟩ := row2 H5.out.r
  go_wp2_with fail
  refine (T5.out W5).mono ?_
  rintro e v5 ⟨_, rfl, hov, hbv⟩
  obtain ⟨a5, c5, rfl, hx5, hk5⟩ := hov.at
  have hr := bel_row H5.out.r hbv
  clear c0 c1 g0 g1 T5
  obtain ⟨c0, c1, g0, g1⟩ := row2 hr
  obtain ⟨W6, hW6⟩ : ∃ W', (v5.setCell ⟨w.heap.size + 1, 0, none⟩ (.string b5)).setCell ⟨w.heap.size + 1, 1, none⟩ (.bool q5) = W' := ⟨_, rfl⟩
  have H6 : Hid (RdW w W6 b5 q5) := Hid_of (by rw [← hW6]; exact H5.out.next hbv)
  have HX5 : Hid (XL il W6 a5 c5 s.l ∧ ∀ k, blk a5 k → k < W6.heap.size ∧ k ≠ w.heap.size + 1 ∧ k ≠ w.heap.size) := Hid_of (by
    have hlt := H5.out.lt
    refine ⟨hx5.keepBut fun k _ hk => by rw [← hW6]; exact rowoth _ _ _ _ _ (by have := (hk5 k hk).1; omega), fun k hk => ⟨?_, by have := (hk5 k hk).1; omega, by have := (hk5 k hk).1; omega⟩⟩
    have := (hk5 k hk).2.2
    rw [← hW6]
    simpa using this)
  clear hov hx5 hk5
  have HWN := Hid_of hW6
  clear hW6 hr hbv H5
  go_upto_region 7 with fail
  rw [HWN.out]
  clear HWN c0 c1 g0 g1
  obtain ⟨c0, c1, g0, g1⟩ := row2 H6.out.r
  go_wp2_with fail
  refine (T6.out W6).mono ?_
  rintro e v6 ⟨_, rfl, hov, hbv⟩
  obtain ⟨a6, c6, rfl, hx6, hk6⟩ := hov.at
  have hr := bel_row H6.out.r hbv
  clear c0 c1 g0 g1 T6
  obtain ⟨c0, c1, g0, g1⟩ := row2 hr
  obtain ⟨W7, hW7⟩ : ∃ W', (v6.setCell ⟨w.heap.size + 1, 0, none⟩ (.string b6)).setCell ⟨w.heap.size + 1, 1, none⟩ (.bool q6) = W' := ⟨_, rfl⟩
  have H7 : Hid (RdW w W7 b6 q6) := Hid_of (by rw [← hW7]; exact H6.out.next hbv)
  have HXD : Hid (XL il W7 a5 c5 s.l ∧ XL il W7 a6 c6 s.sp ∧ ∀ k, blk a5 k ∨ blk a6 k → k ≠ w.heap.size) := Hid_of (by
    have hlt := H6.out.lt
    refine ⟨HX5.out.1.keepBut fun k hkl hk => ?_, hx6.keepBut fun k _ hk => by rw [← hW7]; exact rowoth _ _ _ _ _ (by have := (hk6 k hk).1; omega), fun k hk => ?_⟩
    rotate_left
    · rcases hk with hk | hk
      · exact (HX5.out.2 k hk).2.2
      · have := (hk6 k hk).1; omega
    rw [← hW7, rowoth _ _ _ _ _ (HX5.out.2 k hk).2.1]
    exact hbv.block k hkl)
  clear hov hx6 hk6 HX5
  have HWN := Hid_of hW7
  clear hW7 hr hbv H6
  go_upto_region 8 with fail
  rw [HWN.out]
  clear HWN c0 c1 g0 g1
  -- what was read, in a box
  obtain ⟨q, hq⟩ : ∃ q, (f == 1) = q := ⟨_, rfl⟩
  have HQF : Hid (s.fl = q) := Hid_of (by rw [HFL.out, ← hq]; by_cases h : f = 1 <;> simp [h])
  obtain ⟨W8, HW8⟩ : ∃ W8, Hid (W7.alloc (.cells #[.slice a5 s.l.length c5, .slice a6 s.sp.length c6, .int .i64 s.ep, .int .i64 s.hole, .bool q, .int .i64 s.gone] 31) = W8) := ⟨_, rfl⟩
  have hb8 : Below W7.heap.size W7 W8 := by rw [← HW8.out]; exact bel1 _ _
  have HY8 : Hid (W8.heap[W7.heap.size]? = some (.cells #[.slice a5 s.l.length c5, .slice a6 s.sp.length c6, .int .i64 s.ep, .int .i64 s.hole, .bool q, .int .i64 s.gone] 31 (0, 0))) := Hid_of (by rw [← HW8.out]; exact heap_alloc_last W7 _)
  have HB8 := Hid_of (bel_up H7.out.bel hb8 (Nat.le_refl _))
  have HZ8 := Hid_of (bel_row H7.out.z hb8)
  have HR8 := Hid_of (bel_row H7.out.r hb8)
  have HX8 : Hid (XD W8 a5 c5 a6 c6 s) := Hid_of ⟨HXD.out.1.keep hb8, HXD.out.2.1.keep hb8⟩
  have HXN := Hid_of HXD.out.2.2
  obtain ⟨Y, hY⟩ : ∃ Y, W7.heap.size = Y := ⟨_, rfl⟩
  rw [hY] at HY8
  have HF := Hid_of HBR.out
  clear hb8 HXD H7 HFL
  go_upto_region 9 with fail
  rw [HW8.out]
  clear HW8 hq hY
  obtain ⟨c0, c1, g0, g1⟩ := row2 HR8.out
  rcases rdone_eq (nx (rd6 l)) with ⟨r1, r2⟩ | ⟨r1, r2⟩
  case inr =>
    have HNO := Hid_of (HNO.out (fun h => r2 (HT.out.1 h).1))
    rw [r1] at T7
    clear HT HTI r1 r2 HX8 HY8 HML
    go_wp2_with fail
    refine (T7.out W8).mono ?_
    rintro e z ⟨rfl, hbz⟩
    clear T7 c0 c1 g0 g1
    have hro := put6_row (bel_row HZ8.out hbz) (.slice none 0 0) (.slice none 0 0) (.int .i64 0) (.int .i64 (-1)) (.bool false) (.int .i64 (-1))
    obtain ⟨⟨k0, k1, k2, k3, k4, k5⟩, kf⟩ := row6 (bel_row HZ8.out hbz)
    have kf0 := kf 0
    have kf1 := kf 1
    have kf2 := kf 2
    have kf3 := kf 3
    have kf4 := kf 4
    have kf5 := kf 5
    have HRO := Hid_of hro
    have HQ := Hid_of (HNO.out _ (put6_bel (bel_up HB8.out hbz (Nat.le_refl _)) (Nat.le_refl _) (.slice none 0 0) (.slice none 0 0) (.int .i64 0) (.int .i64 (-1)) (.bool false) (.int .i64 (-1))))
    clear hro kf hbz
    go_wp2
    refine bodyPost_ret (v := .tuple #[.agg #[.slice none 0 0, .slice none 0 0, .int .i64 0, .int .i64 (-1), .bool false, .int .i64 (-1)], .int .i64 3]) ?_ rfl HQ.out
    exact res31_2 f26_res _ _ w.heap.size _ _ _ _ _ _ rfl HRO.out
  rw [r1] at T7
  have R2 := Hid_of r2
  clear r1 r2
  by_cases h1 : 1 < f
  · have HNO := Hid_of (HNO.out (fun h => by have := (HT.out.1 h).2.1; omega))
    have d1 : decide (1 < f) = true := decide_eq_true h1
    clear HT HTI HX8 HY8 HML R2 h1
    go_wp2_with fail
    refine (T7.out W8).mono ?_
    rintro e z ⟨rfl, hbz⟩
    clear T7 c0 c1 g0 g1
    have hro := put6_row (bel_row HZ8.out hbz) (.slice none 0 0) (.slice none 0 0) (.int .i64 0) (.int .i64 (-1)) (.bool false) (.int .i64 (-1))
    obtain ⟨⟨k0, k1, k2, k3, k4, k5⟩, kf⟩ := row6 (bel_row HZ8.out hbz)
    have kf0 := kf 0
    have kf1 := kf 1
    have kf2 := kf 2
    have kf3 := kf 3
    have kf4 := kf 4
    have kf5 := kf 5
    have HRO := Hid_of hro
    have HQ := Hid_of (HNO.out _ (put6_bel (bel_up HB8.out hbz (Nat.le_refl _)) (Nat.le_refl _) (.slice none 0 0) (.slice none 0 0) (.int .i64 0) (.int .i64 (-1)) (.bool false) (.int .i64 (-1))))
    clear hro kf hbz
    go_wp2
    refine bodyPost_ret (v := .tuple #[.agg #[.slice none 0 0, .slice none 0 0, .int .i64 0, .int .i64 (-1), .bool false, .int .i64 (-1)], .int .i64 3]) ?_ rfl HQ.out
    exact res31_2 f26_res _ _ w.heap.size _ _ _ _ _ _ rfl HRO.out
  have d1 : decide (1 < f) = false := decide_eq_false h1
  have HF01 : Hid (f = 0 ∨ f = 1) := Hid_of (by have := HF.out; omega)
  clear h1 HF HBR HR8
  go_wp2_with fail
  refine (T7.out W8).mono ?_
  rintro e z ⟨rfl, hbz⟩
  clear T7 c0 c1 g0 g1
  obtain ⟨x0, x1, x2, x3, x4, x5⟩ := (row6 (bel_row HY8.out hbz)).1
  have hmay := rmayQ_any q HQF.out (HX8.out.keep hbz) HML.out
  cases hm : rm s with
  | false =>
    have HNO := Hid_of (HNO.out (fun h => by have h2 := (HT.out.1 h).2.2; rw [rm_iff.2 h2] at hm; cases hm))
    rw [hm] at hmay
    clear hm HT HTI R2 HX8 HML HF01
    go_wp2_with fail
    refine hmay.mono ?_
    rintro e z2 ⟨rfl, hbz2⟩
    have hbz := bel_up hbz hbz2 (Nat.le_refl _)
    clear hbz2 hmay x0 x1 x2 x3 x4 x5
    have hro := put6_row (bel_row HZ8.out hbz) (.slice none 0 0) (.slice none 0 0) (.int .i64 0) (.int .i64 (-1)) (.bool false) (.int .i64 (-1))
    obtain ⟨⟨k0, k1, k2, k3, k4, k5⟩, kf⟩ := row6 (bel_row HZ8.out hbz)
    have kf0 := kf 0
    have kf1 := kf 1
    have kf2 := kf 2
    have kf3 := kf 3
    have kf4 := kf 4
    have kf5 := kf 5
    have HRO := Hid_of hro
    have HQ := Hid_of (HNO.out _ (put6_bel (bel_up HB8.out hbz (Nat.le_refl _)) (Nat.le_refl _) (.slice none 0 0) (.slice none 0 0) (.int .i64 0) (.int .i64 (-1)) (.bool false) (.int .i64 (-1))))
    clear hro kf hbz
    go_wp2
    refine bodyPost_ret (v := .tuple #[.agg #[.slice none 0 0, .slice none 0 0, .int .i64 0, .int .i64 (-1), .bool false, .int .i64 (-1)], .int .i64 3]) ?_ rfl HQ.out
    exact res31_2 f26_res _ _ w.heap.size _ _ _ _ _ _ rfl HRO.out
  | true =>
    have HTL := Hid_of (HTI.out R2.out HF01.out (rm_iff.1 hm).1 (rm_iff.1 hm).2)
    rw [hm] at hmay
    clear hm HT HTI R2 HML HF01 HNO
    go_wp2_with fail
    refine hmay.mono ?_
    rintro e z2 ⟨rfl, hbz2⟩
    have hbz3 := bel_up hbz hbz2 (Nat.le_refl _)
    clear hbz2 hmay x0 x1 x2 x3 x4 x5 hbz
    obtain ⟨x0, x1, x2, x3, x4, x5⟩ := (row6 (bel_row HY8.out hbz3)).1
    have hro := put6_row (bel_row HZ8.out hbz3) (.slice a5 s.l.length c5) (.slice a6 s.sp.length c6) (.int .i64 s.ep) (.int .i64 s.hole) (.bool q) (.int .i64 s.gone)
    obtain ⟨⟨k0, k1, k2, k3, k4, k5⟩, kf⟩ := row6 (bel_row HZ8.out hbz3)
    have kf0 := kf 0
    have kf1 := kf 1
    have kf2 := kf 2
    have kf3 := kf 3
    have kf4 := kf 4
    have kf5 := kf 5
    have HRO := Hid_of hro
    have HQ : Hid (RdD w l (.returned (.tuple #[.agg #[.slice a5 s.l.length c5, .slice a6 s.sp.length c6, .int .i64 s.ep, .int .i64 s.hole, .bool q, .int .i64 s.gone], .int .i64 0])) (put6 z2 w.heap.size (.slice a5 s.l.length c5) (.slice a6 s.sp.length c6) (.int .i64 s.ep) (.int .i64 s.hole) (.bool q) (.int .i64 s.gone))) := Hid_of ⟨put6_bel (bel_up HB8.out hbz3 (Nat.le_refl _)) (Nat.le_refl _) (.slice a5 s.l.length c5) (.slice a6 s.sp.length c6) (.int .i64 s.ep) (.int .i64 s.hole) (.bool q) (.int .i64 s.gone), .inl ⟨a5, c5, a6, c6, by rw [HRS.out]; exact HTL.out, by rw [HRS.out, ← HQF.out], by
      rw [HRS.out]
      exact (HX8.out.keep hbz3).keepBut fun k hk e => put6_oth (HXN.out k e) _ _ _ _ _ _⟩⟩
    clear hro kf hbz3 HTL
    go_wp2
    refine bodyPost_ret (v := .tuple #[.agg #[.slice a5 s.l.length c5, .slice a6 s.sp.length c6, .int .i64 s.ep, .int .i64 s.hole, .bool q, .int .i64 s.gone], .int .i64 0]) ?_ rfl HQ.out
    exact res31_2 f26_res _ _ w.heap.size _ _ _ _ _ _ rfl HRO.out
end Go.Proofs.Ytacfndfkoiifhaa
