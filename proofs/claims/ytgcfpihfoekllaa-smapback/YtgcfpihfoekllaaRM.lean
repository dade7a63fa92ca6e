/- A stripe read of bytes. -/
import Derived.Test.YtgcfpihfoekllaaRL

namespace Go.Proofs.Ytgcfpihfoekllaa

open Go.RowKit

set_option linter.unusedVariables false

open Sm (S q1 q2 q3 q4 q5)

def put6 (w : World) (g : Nat) (a b c d e f : Value) : World := (((((w.setCell ⟨g, 0, none⟩ a).setCell ⟨g, 1, none⟩ b).setCell ⟨g, 2, none⟩ c).setCell ⟨g, 3, none⟩ d).setCell ⟨g, 4, none⟩ e).setCell ⟨g, 5, none⟩ f
theorem put6_row {w : World} {g : Nat} {t : TypeId} {v0 v1 v2 v3 v4 v5 : Value} (h : w.heap[g]? = some (.cells #[v0, v1, v2, v3, v4, v5] t (0, 0))) (a b c d e f : Value) : (put6 w g a b c d e f).heap[g]? = some (.cells #[a, b, c, d, e, f] t (0, 0)) :=
  heap_setCell_same _ g 5 _ _ _ (heap_setCell_same _ g 4 _ _ _ (heap_setCell_same _ g 3 _ _ _ (heap_setCell_same _ g 2 _ _ _ (heap_setCell_same _ g 1 _ _ _ (heap_setCell_same w g 0 _ _ _ h)))))
theorem put6_bel {w0 w : World} {B g : Nat} (h : Below B w0 w) (hg : B ≤ g) (a b c d e f : Value) : Below B w0 (put6 w g a b c d e f) := (((((h.setCell hg _).setCell hg _).setCell hg _).setCell hg _).setCell hg _).setCell hg _
theorem put6_oth {w : World} {g k : Nat} (h : k ≠ g) (a b c d e f : Value) : (put6 w g a b c d e f).heap[k]? = w.heap[k]? := by
  unfold put6
  rw [heap_setCell_other _ ⟨g, 5, none⟩ k _ h, heap_setCell_other _ ⟨g, 4, none⟩ k _ h, heap_setCell_other _ ⟨g, 3, none⟩ k _ h, heap_setCell_other _ ⟨g, 2, none⟩ k _ h, heap_setCell_other _ ⟨g, 1, none⟩ k _ h, heap_setCell_other _ ⟨g, 0, none⟩ k _ h]
theorem size34 : (Try.prog.info? 34).map (·.size) = some 6 := by kernel_rfl
theorem res34 {fn : Func} {p : Tmp} (h : fn.results = #[.cell p 34]) (tmps : Array Value) (w : World) (g : Nat) (v0 v1 v2 v3 v4 v5 : Value) (hp : tmps.getD p undef = .pointer (some ⟨g, 0, none⟩)) (hg : w.heap[g]? = some (.cells #[v0, v1, v2, v3, v4, v5] 34 (0, 0))) :
    (results fn tmps).run Try.prog w = .ok (.agg #[v0, v1, v2, v3, v4, v5]) w := results_cell_row h tmps w g 34 _ (0, 0) _ hp hg Try.underlying34 rfl size34
theorem res34_2 {fn : Func} {p u : Tmp} (h : fn.results = #[.cell p 34, .tmp u]) (tmps : Array Value) (w : World) (g : Nat) (v0 v1 v2 v3 v4 v5 : Value) (hp : tmps.getD p undef = .pointer (some ⟨g, 0, none⟩)) (hg : w.heap[g]? = some (.cells #[v0, v1, v2, v3, v4, v5] 34 (0, 0))) :
    (results fn tmps).run Try.prog w = .ok (.tuple #[.agg #[v0, v1, v2, v3, v4, v5], tmps.getD u undef]) w := by
  have hp' : tmps[p]?.getD undef = .pointer (some ⟨g, 0, none⟩) := by simpa using hp
  rw [results_cell_tmp h]
  simp [asAddr, hp', run_loadVar_row w g 34 34 #[v0, v1, v2, v3, v4, v5] (0, 0) _ hg Try.underlying34 rfl size34]
theorem gb_bel {w w1 w2 : World} {br : Nat} (h : w.grownBy w1 (some br)) (k : Below w1.heap.size w1 w2) : w.grownBy w2 (some br) := ⟨k.os.trans h.os, k.tape.trans h.tape, k.output.trans h.output, Nat.le_trans h.size k.size, fun j hj hne => (k.block j (Nat.lt_of_lt_of_le hj h.size)).trans (h.block j hj hne)⟩
theorem gb_to {w w1 : World} {br : Nat} (k : Below w.heap.size w w1) : w.grownBy w1 (some br) := gb_bel (World.grownBy.refl _ _) k
theorem gb_low {B : Nat} {w w1 w2 : World} {br : Nat} (h : w.grownBy w1 (some br)) (k : Below w.heap.size w1 w2) : w.grownBy w2 (some br) := ⟨k.os.trans h.os, k.tape.trans h.tape, k.output.trans h.output, Nat.le_trans h.size k.size, fun j hj hne => (k.block j hj).trans (h.block j hj hne)⟩
theorem gb_trans {w w1 w2 : World} {br : Nat} (h : w.grownBy w1 (some br)) (k : w1.grownBy w2 (some br)) : w.grownBy w2 (some br) := ⟨k.os.trans h.os, k.tape.trans h.tape, k.output.trans h.output, Nat.le_trans h.size k.size, fun j hj hne => (k.block j (Nat.lt_of_lt_of_le hj h.size) hne).trans (h.block j hj hne)⟩
theorem q_len (l : List UInt8) : (lft (nx (q1 l))).length ≤ l.length ∧ (lft (nx (q2 l))).length ≤ l.length ∧ (lft (nx (q3 l))).length ≤ l.length ∧ (lft (nx (q4 l))).length ≤ l.length ∧ (lft (nx (q5 l))).length ≤ l.length := by
  have h1 : (lft (nx (q1 l))).length ≤ _ := byte_left l
  have h2 : (lft (nx (q2 l))).length ≤ _ := int_left (lft (nx (q1 l)))
  have h3 : (lft (nx (q3 l))).length ≤ _ := int_left (lft (nx (q2 l)))
  have h4 : (lft (nx (q4 l))).length ≤ _ := int_left (lft (nx (q3 l)))
  have h5 : (lft (nx (q5 l))).length ≤ _ := ints_left (lft (nx (q4 l)))
  omega
theorem vl_len {q : List UInt8} : (vl [] (M.ints q)).length ≤ q.length := by
  cases h : M.ints q with
  | none => simp [vl]
  | some p => obtain ⟨xs, r⟩ := p; exact (M.ints_all q xs r h).2.1
theorem rs_len (l : List UInt8) : (Sm.rs l).l.length ≤ l.length := by
  obtain ⟨h1, h2, h3, h4, h5⟩ := q_len l
  have a : (Sm.rs l).l.length ≤ _ := vl_len (q := lft (nx (q4 l)))
  omega
theorem rs_ep (l : List UInt8) : (Sm.rs l).ep ≤ 9223372036854775807 := by
  show vl 0 (M.int (lft (nx (q2 l)))) ≤ _
  cases h : M.int (lft (nx (q2 l))) with
  | none => simp [vl]
  | some p => obtain ⟨x, r⟩ := p; exact (M.int_only _ _ _ h).2.2
theorem own_of {w : World} {base : Nat} {v : Value} {l : List Int} (h : w.ownsRow base 3 1 v l.length (l.map (Value.int .i64))) : OwnL il 3 w base v l := by
  show w.ownsRow base 3 1 v l.length (il.cells l)
  rw [il_cells]
  exact h
theorem row_gb {w w' : World} {g br : Nat} {o : Obj} (h : w.heap[g]? = some o) (hg : w.grownBy w' (some br)) (hne : g ≠ br) : w'.heap[g]? = some o := (hg.block g (Array.getElem?_eq_some_iff.1 h).1 (fun e => hne (by simpa using e))).trans h
theorem f77_res : Try.f77.results = #[.cell 2 34] := rfl
set_option maxHeartbeats 1000000 in
theorem readStripe_any (br : Nat) (r : List UInt8) (w : World) (h : RS w br (some r)) (hl : r.length ≤ 1000000) : Calls Try.prog 77 #[.pointer (some ⟨br, 0, none⟩)] w fun e w' => ∃ a c, e = .returned (eV ⟨0, Sm.rs r, a, c⟩) ∧ AtL il w' a (Sm.rs r).l ∧ RS w' br (nx (q5 r)) ∧ w.grownBy w' (some br) := by
  obtain ⟨k1, k2, k3, k4, k5⟩ := q_len r
  have H1 : Hid (∀ W : World, RS W br (some r) → Calls Try.prog 87 #[.pointer (some ⟨br, 0, none⟩)] W fun x w' => x = .returned (.int .i64 (Sm.rs r).st) ∧ RS w' br (nx (q1 r)) ∧ W.grownBy w' (some br)) := Hid_of fun W h => byte_rs br (some r) W h (by show r.length ≤ _; omega)
  have H2 : Hid (∀ W : World, RS W br (nx (q1 r)) → Calls Try.prog 76 #[.pointer (some ⟨br, 0, none⟩)] W fun x w' => x = .returned (.int .i64 (Sm.rs r).ow) ∧ RS w' br (nx (q2 r)) ∧ W.grownBy w' (some br)) := Hid_of fun W h => int_rs br _ W h (by omega)
  have H3 : Hid (∀ W : World, RS W br (nx (q2 r)) → Calls Try.prog 76 #[.pointer (some ⟨br, 0, none⟩)] W fun x w' => x = .returned (.int .i64 (Sm.rs r).ep) ∧ RS w' br (nx (q3 r)) ∧ W.grownBy w' (some br)) := Hid_of fun W h => int_rs br _ W h (by omega)
  have H4 : Hid (∀ W : World, RS W br (nx (q3 r)) → Calls Try.prog 76 #[.pointer (some ⟨br, 0, none⟩)] W fun x w' => x = .returned (.int .i64 (Sm.rs r).ln) ∧ RS w' br (nx (q4 r)) ∧ W.grownBy w' (some br)) := Hid_of fun W h => int_rs br _ W h (by omega)
  have H5 : Hid (∀ W : World, RS W br (nx (q4 r)) → Calls Try.prog 90 #[.pointer (some ⟨br, 0, none⟩)] W (IntsOut W br (q5 r))) := Hid_of fun W h => ints_any br _ W h (by omega)
  have hll : vl [] (q5 r) = (Sm.rs r).l := rfl
  have HLL := Hid_of hll
  obtain ⟨W1, HW1⟩ : ∃ W1, Hid (w.alloc (.cells #[.int .i64 0, .int .i64 0, .int .i64 0, .int .i64 0, .int .i64 0, .slice none 0 0] 34) = W1) := ⟨_, rfl⟩
  have hb1 : Below w.heap.size w W1 := by rw [← HW1.out]; exact bel1 w _
  have HR1 : Hid (W1.heap[w.heap.size]? = some (.cells #[.int .i64 0, .int .i64 0, .int .i64 0, .int .i64 0, .int .i64 0, .slice none 0 0] 34 (0, 0))) := Hid_of (by rw [← HW1.out]; exact heap_alloc_last w _)
  have HBN : Hid (w.heap.size ≠ br) := Hid_of (fun e => by have := RS.lt h; omega)
  have hc := H1.out W1 (RS.below h hb1)
  have HG1 : Hid (w.grownBy W1 (some br)) := Hid_of (gb_to hb1)
  generalize hrs : Sm.rs r = s at *
  clear h hl k1 k2 k3 k4 k5 hll hb1 H1
  go_enter Try.func77, Try.ntmps77
  go_wp2_with fail
  rw [HW1.out]
  refine hc.mono ?_
  rintro e w2 ⟨rfl, hr, hg⟩
  have HG2 := Hid_of (gb_trans HG1.out hg)
  have HR2 := Hid_of (row_gb HR1.out hg HBN.out)
  have hc2 := H2.out _ hr
  clear hc hr hg HG1 HR1 HW1 H2
  go_wp2_with fail
  refine hc2.mono ?_
  rintro e w3 ⟨rfl, hr, hg⟩
  have HG3 := Hid_of (gb_trans HG2.out hg)
  have HR3 := Hid_of (row_gb HR2.out hg HBN.out)
  have hc3 := H3.out _ hr
  clear hc2 hr hg HG2 HR2 H3
  go_wp2_with fail
  refine hc3.mono ?_
  rintro e w4 ⟨rfl, hr, hg⟩
  have HG4 := Hid_of (gb_trans HG3.out hg)
  have HR4 := Hid_of (row_gb HR3.out hg HBN.out)
  have hc4 := H4.out _ hr
  clear hc3 hr hg HG3 HR3 H4
  go_wp2_with fail
  refine hc4.mono ?_
  rintro e w5 ⟨rfl, hr, hg⟩
  have HG5 := Hid_of (gb_trans HG4.out hg)
  have HR5 := Hid_of (row_gb HR4.out hg HBN.out)
  have hc5 := H5.out _ hr
  clear hc4 hr hg HG4 HR4 H5
  go_wp2_with fail
  refine hc5.mono ?_
  rintro e w6 ⟨v6, rfl, ho6, hr6, hg6⟩
  rw [HLL.out] at ho6
  have ho := own_of ho6
  obtain ⟨a6, c6, rfl, hx6, hk6⟩ := ho.at
  have HG6 := Hid_of (gb_trans HG5.out hg6)
  have hrow6 := row_gb HR5.out hg6 HBN.out
  obtain ⟨⟨c0, c1, c2, c3, c4, c5⟩, cf⟩ := row6 hrow6
  have cf0 := cf 0
  have cf1 := cf 1
  have cf2 := cf 2
  have cf3 := cf 3
  have cf4 := cf 4
  have cf5 := cf 5
  have HROW := Hid_of (put6_row hrow6 (.int .i64 0) (.int .i64 s.st) (.int .i64 s.ow) (.int .i64 s.ep) (.int .i64 s.ln) (.slice a6 s.l.length c6))
  have HQ : Hid (AtL il (put6 w6 w.heap.size (.int .i64 0) (.int .i64 s.st) (.int .i64 s.ow) (.int .i64 s.ep) (.int .i64 s.ln) (.slice a6 s.l.length c6)) a6 s.l ∧ RS (put6 w6 w.heap.size (.int .i64 0) (.int .i64 s.st) (.int .i64 s.ow) (.int .i64 s.ep) (.int .i64 s.ln) (.slice a6 s.l.length c6)) br (nx (q5 r)) ∧ w.grownBy (put6 w6 w.heap.size (.int .i64 0) (.int .i64 s.st) (.int .i64 s.ow) (.int .i64 s.ep) (.int .i64 s.ln) (.slice a6 s.l.length c6)) (some br)) := by
    refine Hid_of ⟨hx6.at'.keepBut fun k _ hk => put6_oth (fun e => ?_) _ _ _ _ _ _, RS.keep hr6 (put6_oth (fun e => HBN.out e.symm) _ _ _ _ _ _), gb_low (B := 0) HG6.out (put6_bel (Below.refl _ _) (Nat.le_refl _) _ _ _ _ _ _)⟩
    have h1 := (hk6 k hk).1
    have h2 := (Array.getElem?_eq_some_iff.1 HR5.out).1
    omega
  clear hc5 ho6 hr6 hg6 ho hx6 hk6 hrow6 HG5 HG6 HR5 HLL cf
  go_wp2
  refine bodyPost_ret (v := eV ⟨0, s, a6, c6⟩) ?_ rfl ⟨a6, c6, rfl, HQ.out⟩
  exact res34 f77_res _ _ w.heap.size _ _ _ _ _ _ rfl HROW.out

end Go.Proofs.Ytgcfpihfoekllaa
