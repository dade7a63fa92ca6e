/-
  A group read of bytes.
-/
import Derived.Test.YtacfndfkoiifhaaRH
import Derived.Test.YtacfndfkoiifhaaMF
namespace Go.Proofs.Ytacfndfkoiifhaa
open Go.RowKit
set_option linter.unusedVariables false
open Mb (S rd1 rd2 rd3 rd4 rd5 rd6)

theorem rd_len (l : List UInt8) : (lft (nx (rd1 l))).length ≤ l.length ∧ (lft (nx (rd2 l))).length ≤ l.length ∧ (lft (nx (rd3 l))).length ≤ l.length ∧ (lft (nx (rd4 l))).length ≤ l.length ∧ (lft (nx (rd5 l))).length ≤ l.length ∧ (lft (nx (rd6 l))).length ≤ l.length := by
  have h1 : (lft (nx (rd1 l))).length ≤ _ := int_left l
  have h2 : (lft (nx (rd2 l))).length ≤ _ := int_left (lft (nx (rd1 l)))
  have h3 : (lft (nx (rd3 l))).length ≤ _ := byte_left (lft (nx (rd2 l)))
  have h4 : (lft (nx (rd4 l))).length ≤ _ := int_left (lft (nx (rd3 l)))
  have h5 : (lft (nx (rd5 l))).length ≤ _ := ints_left (lft (nx (rd4 l)))
  have h6 : (lft (nx (rd6 l))).length ≤ _ := ints_left (lft (nx (rd5 l)))
  omega
theorem vl_len {q : List UInt8} : (vl [] (M.ints q)).length ≤ q.length := by
  cases h : M.ints q with
  | none => simp [vl]
  | some p => obtain ⟨xs, r⟩ := p; exact (M.ints_all q xs r h).2.1
theorem rs_len (l : List UInt8) : (Mb.rs l).l.length ≤ l.length ∧ (Mb.rs l).sp.length ≤ l.length := by
  obtain ⟨h1, h2, h3, h4, h5, h6⟩ := rd_len l
  have a : (Mb.rs l).l.length ≤ _ := vl_len (q := lft (nx (rd4 l)))
  have b : (Mb.rs l).sp.length ≤ _ := vl_len (q := lft (nx (rd5 l)))
  omega
/-- A row that a reader gave. -/
theorem own_of {w : World} {base : Nat} {v : Value} {l : List Int} (h : w.ownsRow base 3 1 v l.length (l.map (Value.int .i64))) : OwnL il 3 w base v l := by
  show w.ownsRow base 3 1 v l.length (il.cells l)
  rw [il_cells]
  exact h
/-- What Read leaves. -/
def RdOut (w : World) (l : List UInt8) (e : Ending) (w' : World) : Prop :=
  Below w.heap.size w w' ∧ ((∃ b va vb, Mb.Tell l (Mb.rs l) ∧ e = .returned (.tuple #[.pointer (some ⟨b, 0, none⟩), .int .i64 0]) ∧ MI w' w.heap.size b va vb (Mb.rs l)) ∨ ((¬ ∃ s, Mb.Tell l s) ∧ e = .returned (.tuple #[.pointer none, .int .i64 3])))
theorem grown_to {w w1 w2 : World} {br : Nat} (h : Below w.heap.size w w1) (hb : w.heap.size ≤ br) (hg : w1.grownBy w2 (some br)) : Below w.heap.size w w2 := h.trans (below_grown hg h.size fun k hk => by simp at hk; omega)
theorem byte_rng (q : List UInt8) : 0 ≤ vl 0 (M.byte q) ∧ vl 0 (M.byte q) ≤ 255 := by
  cases q with
  | nil => simp [M.byte, vl]
  | cons c r =>
    have := c.toNat_lt
    simp only [M.byte, vl]
    omega
set_option maxHeartbeats 2000000 in
theorem readM_any (l : List UInt8) (w : World) (hl : l.length ≤ 1000000) : Calls Try.prog 25 #[.string (ofL l)] w (RdOut w l) := by
  obtain ⟨k1, k2, k3, k4, k5, k6⟩ := rd_len l
  obtain ⟨ml, ms⟩ := rs_len l
  have hnr := newReader_any l w (by omega)
  have H1 : Hid (∀ (W : World) (br : Nat), RS W br (some l) → Calls Try.prog 46 #[.pointer (some ⟨br, 0, none⟩)] W fun x w' => x = .returned (.int .i64 (Mb.rs l).ep) ∧ RS w' br (nx (rd1 l)) ∧ W.grownBy w' (some br)) := Hid_of fun W br h => int_rs br (some l) W h (by show l.length ≤ _; omega)
  have H2 : Hid (∀ (W : World) (br : Nat), RS W br (nx (rd1 l)) → Calls Try.prog 46 #[.pointer (some ⟨br, 0, none⟩)] W fun x w' => x = .returned (.int .i64 (Mb.rs l).hole) ∧ RS w' br (nx (rd2 l)) ∧ W.grownBy w' (some br)) := Hid_of fun W br h => int_rs br _ W h (by omega)
  have H3 : Hid (∀ (W : World) (br : Nat), RS W br (nx (rd2 l)) → Calls Try.prog 47 #[.pointer (some ⟨br, 0, none⟩)] W fun x w' => x = .returned (.int .i64 (vl 0 (rd3 l))) ∧ RS w' br (nx (rd3 l)) ∧ W.grownBy w' (some br)) := Hid_of fun W br h => byte_rs br _ W h (by omega)
  have H4 : Hid (∀ (W : World) (br : Nat), RS W br (nx (rd3 l)) → Calls Try.prog 46 #[.pointer (some ⟨br, 0, none⟩)] W fun x w' => x = .returned (.int .i64 (Mb.rs l).gone) ∧ RS w' br (nx (rd4 l)) ∧ W.grownBy w' (some br)) := Hid_of fun W br h => int_rs br _ W h (by omega)
  have H5 : Hid (∀ (W : World) (br : Nat), RS W br (nx (rd4 l)) → Calls Try.prog 48 #[.pointer (some ⟨br, 0, none⟩)] W (IntsOut W br (rd5 l))) := Hid_of fun W br h => ints_any br _ W h (by omega)
  have H6 : Hid (∀ (W : World) (br : Nat), RS W br (nx (rd5 l)) → Calls Try.prog 48 #[.pointer (some ⟨br, 0, none⟩)] W (IntsOut W br (rd6 l))) := Hid_of fun W br h => ints_any br _ W h (by omega)
  have H7 : Hid (∀ (W : World) (br : Nat), RS W br (nx (rd6 l)) → Calls Try.prog 49 #[.pointer (some ⟨br, 0, none⟩)] W fun e w' => e = .returned (.int .i64 (rdone (nx (rd6 l)))) ∧ w' = W) := Hid_of fun W br h => rdone_any br _ W h (by omega)
  have HNO : Hid ((¬ ∃ s, Mb.Tell l s) → ∀ w', Below w.heap.size w w' → RdOut w l (.returned (.tuple #[.pointer none, .int .i64 3])) w') := Hid_of fun hn w' hb => ⟨hb, .inr ⟨hn, rfl⟩⟩
  have hbr := byte_rng (lft (nx (rd2 l)))
  have HT := Hid_of (Mb.tell_rs (b := l))
  have HTI : Hid (nx (rd6 l) = some [] → (vl 0 (rd3 l) = 0 ∨ vl 0 (rd3 l) = 1) → Mb.nw (Mb.rs l).l (Mb.rs l).sp → Mb.mb (Mb.rs l) = true → Mb.Tell l (Mb.rs l)) := Hid_of Mb.tell_is
  have hll : vl [] (rd5 l) = (Mb.rs l).l := rfl
  have hlp : vl [] (rd6 l) = (Mb.rs l).sp := rfl
  have hfl : (Mb.rs l).fl = decide (vl 0 (rd3 l) = 1) := rfl
  have hbr : 0 ≤ vl 0 (rd3 l) ∧ vl 0 (rd3 l) ≤ 255 := hbr
  generalize hrs : Mb.rs l = s at *
  generalize hf : vl 0 (rd3 l) = f at *
  have HLL := Hid_of hll
  have HLP := Hid_of hlp
  have HFL := Hid_of hfl
  clear k1 k2 k3 k4 k5 k6 hll hlp hfl hf
  go_enter Try.func25, Try.ntmps25
  go_wp2_with fail
  refine hnr.mono ?_
  rintro e w1 ⟨br, rfl, hbrs, hr1, hb1⟩
  have HBR := Hid_of hbrs
  have HB1 := Hid_of hb1
  have hc := H1.out _ _ hr1
  clear hnr hr1 hb1 hbrs H1
  go_wp2_with fail
  refine hc.mono ?_
  rintro e w2 ⟨rfl, hr, hg⟩
  have HB2 := Hid_of (grown_to HB1.out HBR.out hg)
  have hc2 := H2.out _ _ hr
  clear hc hr hg HB1 H2
  go_wp2_with fail
  refine hc2.mono ?_
  rintro e w3 ⟨rfl, hr, hg⟩
  have HB3 := Hid_of (grown_to HB2.out HBR.out hg)
  have hc3 := H3.out _ _ hr
  clear hc2 hr hg HB2 H3
  go_wp2_with fail
  refine hc3.mono ?_
  rintro e w4 ⟨rfl, hr, hg⟩
  have HB4 := Hid_of (grown_to HB3.out HBR.out hg)
  have hc4 := H4.out _ _ hr
  clear hc3 hr hg HB3 H4
  go_wp2_with fail
  refine hc4.mono ?_
  rintro e w5 ⟨rfl, hr, hg⟩
  have HB5 := Hid_of (grown_to HB4.out HBR.out hg)
  have hc5 := H5.out _ _ hr
  have HR5 := Hid_of (RS.lt hr)
  clear hc4 hr hg HB4 H5
  go_wp2_with fail
  refine hc5.mono ?_
  rintro e w6 ⟨v6, rfl, ho6, hr6, hg6⟩
  rw [HLL.out] at ho6
  have HB6 := Hid_of (grown_to HB5.out HBR.out hg6)
  have hc6 := H6.out _ _ hr6
  have HO6 := Hid_of (own_of ho6)
  have HS6 := Hid_of hg6.size
  clear hc5 ho6 hr6 hg6 H6
  go_wp2_with fail
  refine hc6.mono ?_
  rintro e w7 ⟨v7, rfl, ho7, hr7, hg7⟩
  rw [HLP.out] at ho7
  have HB7 := Hid_of (grown_to HB6.out HBR.out hg7)
  have hO7 := own_of ho7
  have hO6 : OwnL il 3 w7 w5.heap.size v6 s.l := owns_grown HO6.out hg7 HR5.out
  obtain ⟨a6, c6, rfl, hx6, -⟩ := hO6.at
  obtain ⟨a7, c7, rfl, hx7, -⟩ := hO7.at
  have hc7 := newM_any a6 c6 s.l a7 c7 s.sp w7 (by omega) (by omega) hx6.at' hx7.at'
  have HR7 := Hid_of hr7
  clear hc6 ho7 hr7 hg7 hO7 hO6 hx6 hx7 HO6 HS6 HR5 HB5 HB6 HLL HLP
  go_wp2_with fail
  refine hc7.mono ?_
  rintro e w8 ⟨hb8, hcase⟩
  have HB8 := Hid_of (bel_up HB7.out hb8 (Nat.le_refl _))
  have HR8 := Hid_of (RS.below HR7.out hb8)
  clear hc7 HR7
  rcases hcase with ⟨hnw, bm, va, vb, rfl, hm8⟩ | ⟨hnw, rfl⟩
  · have HM8 : Hid (MI w8 w.heap.size bm va vb (Mb.s0 s.l s.sp)) := Hid_of ⟨hm8.row, hm8.ol.low HB7.out.size, hm8.os.low HB7.out.size, hm8.nl, hm8.ns, hm8.ne, Nat.le_trans HB7.out.size hm8.lo⟩
    have HNW := Hid_of hnw
    clear hm8 hb8 hnw HB7
    have hc8 := H7.out _ _ HR8.out
    rcases rdone_eq (nx (rd6 l)) with ⟨q1, q2⟩ | ⟨q1, q2⟩
    · rw [q1] at hc8
      have HQ2 := Hid_of q2
      clear q1 q2
      by_cases hf01 : f = 0 ∨ f = 1
      · have HF := Hid_of hf01
        obtain ⟨⟨_, _, _, _, e4, e5⟩, ef⟩ := row6 HM8.out.row
        obtain ⟨⟨e0, e1, e2, e3, _, _⟩, _⟩ := row6 HM8.out.row
        have f0 := ef 0
        have f1 := ef 1
        have f2 := ef 2
        have f3 := ef 3
        have HM9 : Hid (∀ q : Bool, s.fl = q → MI ((((w8.setCell ⟨bm, 0, none⟩ (.int .i64 s.ep)).setCell ⟨bm, 1, none⟩ (.int .i64 s.hole)).setCell ⟨bm, 2, none⟩ (.bool q)).setCell ⟨bm, 3, none⟩ (.int .i64 s.gone)) w.heap.size bm va vb s ∧ Below w.heap.size w ((((w8.setCell ⟨bm, 0, none⟩ (.int .i64 s.ep)).setCell ⟨bm, 1, none⟩ (.int .i64 s.hole)).setCell ⟨bm, 2, none⟩ (.bool q)).setCell ⟨bm, 3, none⟩ (.int .i64 s.gone))) := by
          refine Hid_of fun q hq => ⟨HM8.out.setb rfl rfl ?_ (fun k hk => ?_), ?_⟩
          · rw [← hq]
            exact heap_setCell_same _ bm 3 _ _ _ (heap_setCell_same _ bm 2 _ _ _ (heap_setCell_same _ bm 1 _ _ _ (heap_setCell_same w8 bm 0 _ _ _ HM8.out.row)))
          · rw [heap_setCell_other _ ⟨bm, 3, none⟩ k _ hk, put3_oth hk]
          · have hlo := HM8.out.lo
            exact (((HB8.out.setCell hlo _).setCell hlo _).setCell hlo _).setCell hlo _
        clear HM8 HB8 HR8 ef
        cases hmv : Mb.mb s with
        | true =>
          have HTL := Hid_of (HTI.out HQ2.out HF.out HNW.out hmv)
          have HMV := Hid_of hmv
          clear HNO HT HTI hmv HQ2 HF HNW
          rcases hf01 with rfl | rfl
          · obtain ⟨hm9, hb9⟩ := HM9.out false HFL.out
            have hmb := mayBe_any hm9 (by omega) (by omega)
            rw [HMV.out] at hmb
            have HN9 := Hid_of hm9
            have HB9 := Hid_of hb9
            clear hm9 hb9 HM9 HFL HMV
            go_wp2_with fail
            refine hc8.mono ?_
            rintro e w9 ⟨rfl, hw9⟩
            subst w9
            clear hc8
            go_wp2_with fail
            refine hmb.mono ?_
            rintro e w10 ⟨rfl, hb10⟩
            have HQ : Hid (RdOut w l (.returned (.tuple #[.pointer (some ⟨bm, 0, none⟩), .int .i64 0])) w10) := Hid_of ⟨bel_up HB9.out hb10 (Nat.le_refl _), .inl ⟨bm, va, vb, by rw [hrs]; exact HTL.out, rfl, by rw [hrs]; exact HN9.out.keep hb10⟩⟩
            clear hmb hb10 HN9 HB9 HTL
            go_wp2
            go_ret2
            exact HQ.out
          · obtain ⟨hm9, hb9⟩ := HM9.out true HFL.out
            have hmb := mayBe_any hm9 (by omega) (by omega)
            rw [HMV.out] at hmb
            have HN9 := Hid_of hm9
            have HB9 := Hid_of hb9
            clear hm9 hb9 HM9 HFL HMV
            go_wp2_with fail
            refine hc8.mono ?_
            rintro e w9 ⟨rfl, hw9⟩
            subst w9
            clear hc8
            go_wp2_with fail
            refine hmb.mono ?_
            rintro e w10 ⟨rfl, hb10⟩
            have HQ : Hid (RdOut w l (.returned (.tuple #[.pointer (some ⟨bm, 0, none⟩), .int .i64 0])) w10) := Hid_of ⟨bel_up HB9.out hb10 (Nat.le_refl _), .inl ⟨bm, va, vb, by rw [hrs]; exact HTL.out, rfl, by rw [hrs]; exact HN9.out.keep hb10⟩⟩
            clear hmb hb10 HN9 HB9 HTL
            go_wp2
            go_ret2
            exact HQ.out
        | false =>
          have HQ := Hid_of (HNO.out (fun h => by have := (HT.out.1 h).2.2.2; rw [hmv] at this; cases this))
          have HMV := Hid_of hmv
          clear HNO HT HTI hmv HQ2 HF HNW
          rcases hf01 with rfl | rfl
          · obtain ⟨hm9, hb9⟩ := HM9.out false HFL.out
            have hmb := mayBe_any hm9 (by omega) (by omega)
            rw [HMV.out] at hmb
            have HN9 := Hid_of hm9
            have HB9 := Hid_of hb9
            clear hm9 hb9 HM9 HFL HMV
            go_wp2_with fail
            refine hc8.mono ?_
            rintro e w9 ⟨rfl, hw9⟩
            subst w9
            clear hc8
            go_wp2_with fail
            refine hmb.mono ?_
            rintro e w10 ⟨rfl, hb10⟩
            have HB10 := Hid_of (bel_up HB9.out hb10 (Nat.le_refl _))
            clear hmb hb10 HN9 HB9
            go_wp2
            go_ret2
            exact HQ.out _ HB10.out
          · obtain ⟨hm9, hb9⟩ := HM9.out true HFL.out
            have hmb := mayBe_any hm9 (by omega) (by omega)
            rw [HMV.out] at hmb
            have HN9 := Hid_of hm9
            have HB9 := Hid_of hb9
            clear hm9 hb9 HM9 HFL HMV
            go_wp2_with fail
            refine hc8.mono ?_
            rintro e w9 ⟨rfl, hw9⟩
            subst w9
            clear hc8
            go_wp2_with fail
            refine hmb.mono ?_
            rintro e w10 ⟨rfl, hb10⟩
            have HB10 := Hid_of (bel_up HB9.out hb10 (Nat.le_refl _))
            clear hmb hb10 HN9 HB9
            go_wp2
            go_ret2
            exact HQ.out _ HB10.out
      · have HQ := Hid_of (HNO.out (fun h => hf01 (HT.out.1 h).2.1))
        have d1 : (f != 0) = true := bne_iff_ne.2 (fun e => hf01 (.inl e))
        have d2 : (f != 1) = true := bne_iff_ne.2 (fun e => hf01 (.inr e))
        clear HNO HT HTI hf01 HQ2 HM8 HNW HR8
        go_wp2_with fail
        refine hc8.mono ?_
        rintro e w9 ⟨rfl, hw9⟩
        subst w9
        clear hc8
        go_wp2
        go_ret2
        exact HQ.out _ HB8.out
    · rw [q1] at hc8
      have HQ := Hid_of (HNO.out (fun h => q2 (HT.out.1 h).1))
      clear HNO HT HTI q1 q2 HM8 HNW HR8
      go_wp2_with fail
      refine hc8.mono ?_
      rintro e w9 ⟨rfl, hw9⟩
      subst w9
      clear hc8
      go_wp2
      go_ret2
      exact HQ.out _ HB8.out
  · have HQ := Hid_of (HNO.out (fun h => hnw (HT.out.1 h).2.2.1))
    clear HNO HT HTI hnw hb8 HR8 HB7 H7
    go_wp2
    go_ret2
    exact HQ.out _ HB8.out
end Go.Proofs.Ytacfndfkoiifhaa
