/-
  The document's Add and New.
-/
import Derived.Test.YtacfndfkoiifhaaFC
namespace Go.Proofs.Ytacfndfkoiifhaa
open Go.RowKit
set_option linter.unusedVariables false
open Mb (S)

theorem acD (s : S) (a : Int) : (a < 0 ∧ Mb.ac s a = 1) ∨ (0 ≤ a ∧ 63 < a ∧ Mb.ac s a = 1) ∨ ((0 ≤ a ∧ a ≤ 63) ∧ 0 ≤ Mb.pl s.l a ∧ Mb.ac s a = 6) ∨ ((0 ≤ a ∧ a ≤ 63) ∧ Mb.pl s.l a < 0 ∧ 0 ≤ Mb.pl s.sp a ∧ Mb.ac s a = 6) ∨ ((0 ≤ a ∧ a ≤ 63) ∧ Mb.pl s.l a < 0 ∧ Mb.pl s.sp a < 0 ∧ a = s.gone ∧ Mb.ac s a = 6) ∨ ((0 ≤ a ∧ a ≤ 63) ∧ Mb.pl s.l a < 0 ∧ Mb.pl s.sp a < 0 ∧ a ≠ s.gone ∧ Mb.ac s a = 0) := by
  unfold Mb.ac
  by_cases h1 : a < 0
  · exact .inl ⟨h1, if_pos (.inl h1)⟩
  by_cases h2 : 63 < a
  · exact .inr (.inl ⟨by omega, h2, if_pos (.inr h2)⟩)
  rw [if_neg (by omega)]
  have ha : 0 ≤ a ∧ a ≤ 63 := by omega
  by_cases h3 : 0 ≤ Mb.pl s.l a
  · exact .inr (.inr (.inl ⟨ha, h3, if_pos (.inl h3)⟩))
  by_cases h4 : 0 ≤ Mb.pl s.sp a
  · exact .inr (.inr (.inr (.inl ⟨ha, by omega, h4, if_pos (.inr (.inl h4))⟩)))
  by_cases h5 : a = s.gone
  · exact .inr (.inr (.inr (.inr (.inl ⟨ha, by omega, by omega, h5, if_pos (.inr (.inr h5))⟩))))
  · exact .inr (.inr (.inr (.inr (.inr ⟨ha, by omega, by omega, h5, if_neg (by rintro (e | e | e) <;> contradiction)⟩))))
section
variable {w : World} {aL aS : Option Addr} {cL cS : Nat} {s : S}
set_option maxRecDepth 100000 in
set_option maxHeartbeats 4000000 in
theorem radd_any (h : XD w aL cL aS cS s) (hl : s.l.length ≤ 1000) (hs : s.sp.length ≤ 1000) (a : Int) : Calls Try.prog 34 #[mV aL cL aS cS s, .int .i64 a] w (RDn w aL aS (Mb.as' s a) [.int .i64 (Mb.ac s a)]) := by
  obtain ⟨W1, HW1⟩ : ∃ W1, Hid ((w.alloc (.cells #[.slice aL s.l.length cL, .slice aS s.sp.length cS, .int .i64 s.ep, .int .i64 s.hole, .bool s.fl, .int .i64 s.gone] 31)).alloc (.cells #[.slice none 0 0, .slice none 0 0, .int .i64 0, .int .i64 0, .bool false, .int .i64 0] 31) = W1) := ⟨_, rfl⟩
  have HB1 : Hid (Below w.heap.size w W1) := by rw [← HW1.out]; exact bel_up (bel1 w _) (bel1 _ _) (Nat.le_refl _)
  have hx1 : W1.heap[w.heap.size]? = some (.cells #[.slice aL s.l.length cL, .slice aS s.sp.length cS, .int .i64 s.ep, .int .i64 s.hole, .bool s.fl, .int .i64 s.gone] 31 (0, 0)) := by rw [← HW1.out]; exact heap_alloc2_old w _ _
  have hr1 : W1.heap[w.heap.size + 1]? = some (.cells #[.slice none 0 0, .slice none 0 0, .int .i64 0, .int .i64 0, .bool false, .int .i64 0] 31 (0, 0)) := by rw [← HW1.out]; exact heap_alloc2_new w _ _
  obtain ⟨⟨x0, x1, x2, x3, x4, x5⟩, xf⟩ := row6 hx1
  obtain ⟨⟨z0, z1, z2, z3, z4, z5⟩, zf⟩ := row6 hr1
  have g0 := zf 0
  have g1 := zf 1
  have g2 := zf 2
  have g3 := zf 3
  have g4 := zf 4
  have g5 := zf 5
  have f0 := xf 0
  have f1 := xf 1
  have f2 := xf 2
  have f3 := xf 3
  have f4 := xf 4
  have f5 := xf 5
  have HR1 := Hid_of hr1
  clear xf zf
  have HROW := Hid_of (put6_row HR1.out (.slice aL s.l.length cL) (.slice aS s.sp.length cS) (.int .i64 s.ep) (.int .i64 s.hole) (.bool s.fl) (.int .i64 s.gone))
  have HX1 := Hid_of hx1
  have hat := refAt_any aL cL s.l a W1 (by omega) (h.xl.at'.keep HB1.out)
  have hats := refAt_any aS cS s.sp a W1 (by omega) (h.xs.at'.keep HB1.out)
  have HNO : Hid (¬ Mb.ac s a = 0 → RDn w aL aS (Mb.as' s a) [.int .i64 (Mb.ac s a)] (.returned (.tuple #[mV aL cL aS cS s, .int .i64 (Mb.ac s a)])) (put6 W1 (w.heap.size + 1) (.slice aL s.l.length cL) (.slice aS s.sp.length cS) (.int .i64 s.ep) (.int .i64 s.hole) (.bool s.fl) (.int .i64 s.gone))) := Hid_of fun e => by
    have hb : Below w.heap.size w (put6 W1 (w.heap.size + 1) (.slice aL s.l.length cL) (.slice aS s.sp.length cS) (.int .i64 s.ep) (.int .i64 s.hole) (.bool s.fl) (.int .i64 s.gone)) := put6_bel HB1.out (by omega) _ _ _ _ _ _
    exact ⟨aL, cL, aS, cS, by rw [Mb.as_no e], by rw [Mb.as_no e]; exact h.keep hb, hb, fun k hk => .inl hk⟩
  clear hx1 hr1
  rcases acD s a with ⟨k1, k2⟩ | ⟨k1, k2, k3⟩ | ⟨k1, k2, k3⟩ | ⟨k1, k2, k3, k4⟩ | ⟨k1, k2, k3, k4, k5⟩ | ⟨k1, k2, k3, k4, k5⟩
  · have HQ := Hid_of (HNO.out (by rw [k2]; decide))
    rw [k2] at HQ ⊢
    have d1 : decide (a < 0) = true := decide_eq_true k1
    clear HNO k2
    go_enter Try.func34, Try.ntmps34
    go_upto_region 1 with fail
    rw [HW1.out]
    clear HW1

    go_wp2
    refine bodyPost_ret (v := .tuple #[mV aL cL aS cS s, .int .i64 1]) ?_ rfl HQ.out
    exact res31_2 f34_res _ _ (w.heap.size + 1) _ _ _ _ _ _ rfl HROW.out
  · have HQ := Hid_of (HNO.out (by rw [k3]; decide))
    rw [k3] at HQ ⊢
    have d1 : decide (a < 0) = false := decide_eq_false (by omega)
    have d2 : decide (63 < a) = true := decide_eq_true k2
    clear HNO k3
    go_enter Try.func34, Try.ntmps34
    go_upto_region 1 with fail
    rw [HW1.out]
    clear HW1

    go_wp2
    refine bodyPost_ret (v := .tuple #[mV aL cL aS cS s, .int .i64 1]) ?_ rfl HQ.out
    exact res31_2 f34_res _ _ (w.heap.size + 1) _ _ _ _ _ _ rfl HROW.out
  · have HQ := Hid_of (HNO.out (by rw [k3]; decide))
    rw [k3] at HQ ⊢
    have d1 : decide (a < 0) = false := decide_eq_false (by omega)
    have d2 : decide (63 < a) = false := decide_eq_false (by omega)
    have d3 : decide (0 ≤ Mb.pl s.l a) = true := decide_eq_true k2
    clear HNO k3
    go_enter Try.func34, Try.ntmps34
    go_upto_region 1 with fail
    rw [HW1.out]
    clear HW1
    go_wp2_with fail
    refine hat.mono ?_
    rintro e w2 ⟨rfl, hw⟩
    subst w2
    go_wp2
    refine bodyPost_ret (v := .tuple #[mV aL cL aS cS s, .int .i64 6]) ?_ rfl HQ.out
    exact res31_2 f34_res _ _ (w.heap.size + 1) _ _ _ _ _ _ rfl HROW.out
  · have HQ := Hid_of (HNO.out (by rw [k4]; decide))
    rw [k4] at HQ ⊢
    have d1 : decide (a < 0) = false := decide_eq_false (by omega)
    have d2 : decide (63 < a) = false := decide_eq_false (by omega)
    have d3 : decide (0 ≤ Mb.pl s.l a) = false := decide_eq_false (by omega)
    have d4 : decide (0 ≤ Mb.pl s.sp a) = true := decide_eq_true k3
    clear HNO k4
    go_enter Try.func34, Try.ntmps34
    go_upto_region 1 with fail
    rw [HW1.out]
    clear HW1
    go_wp2_with fail
    refine hat.mono ?_
    rintro e w2 ⟨rfl, hw⟩
    subst w2
    go_wp2_with fail
    refine hats.mono ?_
    rintro e w2 ⟨rfl, hw⟩
    subst w2
    go_wp2
    refine bodyPost_ret (v := .tuple #[mV aL cL aS cS s, .int .i64 6]) ?_ rfl HQ.out
    exact res31_2 f34_res _ _ (w.heap.size + 1) _ _ _ _ _ _ rfl HROW.out
  · have HQ := Hid_of (HNO.out (by rw [k5]; decide))
    rw [k5] at HQ ⊢
    have d1 : decide (a < 0) = false := decide_eq_false (by omega)
    have d2 : decide (63 < a) = false := decide_eq_false (by omega)
    have d3 : decide (0 ≤ Mb.pl s.l a) = false := decide_eq_false (by omega)
    have d4 : decide (0 ≤ Mb.pl s.sp a) = false := decide_eq_false (by omega)
    have d5 : (a == s.gone) = true := beq_iff_eq.2 k4
    clear k4
    clear HNO k5
    go_enter Try.func34, Try.ntmps34
    go_upto_region 1 with fail
    rw [HW1.out]
    clear HW1
    go_wp2_with fail
    refine hat.mono ?_
    rintro e w2 ⟨rfl, hw⟩
    subst w2
    go_wp2_with fail
    refine hats.mono ?_
    rintro e w2 ⟨rfl, hw⟩
    subst w2
    go_wp2
    refine bodyPost_ret (v := .tuple #[mV aL cL aS cS s, .int .i64 6]) ?_ rfl HQ.out
    exact res31_2 f34_res _ _ (w.heap.size + 1) _ _ _ _ _ _ rfl HROW.out
  · have hs1 : W1.heap.size = w.heap.size + 2 := by rw [← HW1.out]; simp
    obtain ⟨a2, c2, W2, hc2, ho2, hb2⟩ := copyA W1 aS cS s.sp (h.xs.at'.keep HB1.out) (by omega)
    obtain ⟨a4, c4, W4, hc4, ho4, hb4⟩ := appA (W2.alloc (.cells #[.int .i64 a] 3)) W1.heap.size a2 c2 s.sp (some ⟨W2.heap.size, 0, none⟩) 1 [a] (ho2.keep (bel1 W2 _)) (at_int1 (heap_alloc_last W2 _)) (by have := hb2.size; simp; omega) (by simp; omega)
    have hbw4 : Below W1.heap.size W1 W4 := (bel_up hb2 (bel1 W2 _) (Nat.le_refl _)).trans hb4
    obtain ⟨⟨q0, q1, q2, q3, q4, q5⟩, qf⟩ := row6 (bel_row HX1.out hbw4)
    obtain ⟨⟨n0, n1, n2, n3, n4, n5⟩, nf⟩ := row6 (bel_row HR1.out hbw4)
    obtain ⟨⟨p0, p1, p2, p3, p4, p5⟩, -⟩ := row6 (bel_row HX1.out (bel_up hb2 (bel1 W2 (.cells #[.int .i64 a] 3)) (Nat.le_refl _)))
    have qf1 := qf 1
    have nf0 := nf 0
    have nf1 := nf 1
    have nf2 := nf 2
    have nf3 := nf 3
    have nf4 := nf 4
    have nf5 := nf 5
    obtain ⟨nl, hnl⟩ : ∃ nl, (s.sp ++ [a]).length = nl := ⟨_, rfl⟩
    have hne : w.heap.size + 1 ≠ w.heap.size := by omega
    have HS : Hid ((W4.setCell ⟨w.heap.size, 1, none⟩ (.slice a4 nl c4)).heap[w.heap.size + 1]? = W4.heap[w.heap.size + 1]?) := Hid_of (by
      rw [heap_setCell_other _ ⟨w.heap.size, 1, none⟩ _ _ hne])
    have HY := Hid_of (put6_row (HS.out.trans (bel_row HR1.out hbw4)) (.slice aL s.l.length cL) (.slice a4 nl c4) (.int .i64 s.ep) (.int .i64 s.hole) (.bool s.fl) (.int .i64 s.gone))
    have hb6 : Below w.heap.size w (put6 (W4.setCell ⟨w.heap.size, 1, none⟩ (.slice a4 nl c4)) (w.heap.size + 1) (.slice aL s.l.length cL) (.slice a4 nl c4) (.int .i64 s.ep) (.int .i64 s.hole) (.bool s.fl) (.int .i64 s.gone)) := put6_bel (g := w.heap.size + 1) ((bel_up HB1.out hbw4 (Nat.le_refl _)).setCell (p := ⟨w.heap.size, 1, none⟩) (Nat.le_refl _) _) (by omega) _ _ _ _ _ _
    have HQ : Hid (RDn w aL aS (Mb.as' s a) [.int .i64 (Mb.ac s a)] (.returned (.tuple #[.agg #[.slice aL s.l.length cL, .slice a4 nl c4, .int .i64 s.ep, .int .i64 s.hole, .bool s.fl, .int .i64 s.gone], .int .i64 (Mb.ac s a)])) (put6 (W4.setCell ⟨w.heap.size, 1, none⟩ (.slice a4 nl c4)) (w.heap.size + 1) (.slice aL s.l.length cL) (.slice a4 nl c4) (.int .i64 s.ep) (.int .i64 s.hole) (.bool s.fl) (.int .i64 s.gone))) := Hid_of (by
      obtain ⟨ax, cx, e1, hx5, hbl⟩ := ho4.at
      simp only [Value.slice.injEq, true_and] at e1
      obtain ⟨rfl, rfl⟩ := e1
      refine ⟨aL, cL, a4, c4, by rw [Mb.as_yes k5, ← hnl], ⟨by rw [Mb.as_yes k5]; exact (h.keep hb6).xl, ?_⟩, hb6, ?_⟩
      · rw [Mb.as_yes k5]
        refine hx5.keepBut fun k hk e => ?_
        have hk2 := (hbl k e).1
        rw [put6_oth (by omega), heap_setCell_other _ ⟨w.heap.size, 1, none⟩ _ _ (by show k ≠ w.heap.size; omega)]
      · rintro k (hk | hk)
        · exact .inl (.inl hk)
        · have := hbl k hk
          have hz : W4.heap.size ≤ (put6 (W4.setCell ⟨w.heap.size, 1, none⟩ (.slice a4 nl c4)) (w.heap.size + 1) (.slice aL s.l.length cL) (.slice a4 nl c4) (.int .i64 s.ep) (.int .i64 s.hole) (.bool s.fl) (.int .i64 s.gone)).heap.size := by simp [put6]
          exact .inr (by omega))
    rw [hnl] at hc4
    have HC2 := Hid_of hc2
    have HC4 := Hid_of hc4
    rw [k5] at HQ ⊢
    have d1 : decide (a < 0) = false := decide_eq_false (by omega)
    have d2 : decide (63 < a) = false := decide_eq_false (by omega)
    have d3 : decide (0 ≤ Mb.pl s.l a) = false := decide_eq_false (by omega)
    have d4 : decide (0 ≤ Mb.pl s.sp a) = false := decide_eq_false (by omega)
    have d5 : (a == s.gone) = false := beq_false_of_ne k4
    clear HNO k5 k4 hc2 ho2 hb2 hc4 ho4 hb4 hbw4 qf nf hnl hb6 hs1 h HX1 HR1 HS HB1 k2 k3
    generalize Mb.pl s.l a = pa at *
    generalize Mb.pl s.sp a = pb at *
    go_enter Try.func34, Try.ntmps34
    go_upto_region 1 with fail
    rw [HW1.out]
    clear HW1
    go_wp2_with fail
    refine hat.mono ?_
    rintro e w2 ⟨rfl, hw⟩
    subst w2
    go_wp2_with fail
    refine hats.mono ?_
    rintro e w2 ⟨rfl, hw⟩
    subst w2
    go_wp2_with (first | (at_builtin; refine wpList_append_known rfl _ _ 22 rfl (.slice none 0 0) (.slice aS s.sp.length cS) rfl rfl _ _ (HC2.out _) ?_) | (at_builtin; refine wpList_append_known rfl _ _ 22 rfl (.slice a2 s.sp.length c2) (.slice (some ⟨W2.heap.size, 0, none⟩) 1 1) rfl rfl _ _ (HC4.out _) ?_))
    refine bodyPost_ret (v := .tuple #[.agg #[.slice aL s.l.length cL, .slice a4 nl c4, .int .i64 s.ep, .int .i64 s.hole, .bool s.fl, .int .i64 s.gone], .int .i64 0]) ?_ rfl HQ.out
    exact res31_2 f34_res _ _ (w.heap.size + 1) _ _ _ _ _ _ rfl HY.out
end
/-- What the document's New tells. -/
def NewD (w : World) (l sp : List Int) (e : Ending) (w' : World) : Prop :=
  Below w.heap.size w w' ∧ ((Mb.nw l sp ∧ ∃ aL cL aS cS, e = .returned (.tuple #[mV aL cL aS cS (Mb.s0 l sp), .bool true]) ∧ XD w' aL cL aS cS (Mb.s0 l sp) ∧ ∀ k, blk aL k ∨ blk aS k → w.heap.size ≤ k ∧ k < w'.heap.size) ∨ (¬ Mb.nw l sp ∧ e = .returned (.tuple #[.agg #[.slice none 0 0, .slice none 0 0, .int .i64 0, .int .i64 (-1), .bool false, .int .i64 (-1)], .bool false])))
theorem put6_f {w0 W : World} (hb : Below w0.heap.size w0 W) (a b c d e f : Value) : Below w0.heap.size w0 (put6 W w0.heap.size a b c d e f) := put6_bel hb (Nat.le_refl _) _ _ _ _ _ _
set_option maxRecDepth 100000 in
set_option maxHeartbeats 4000000 in
theorem newD_any (a1 : Option Addr) (c1 : Nat) (l : List Int) (a2 : Option Addr) (c2 : Nat) (sp : List Int) (w : World) (m1 : l.length ≤ 1000) (m2 : sp.length ≤ 1000) (k1 : l.length ≤ c1) (h1 : AtL il w a1 l) (h2 : AtL il w a2 sp) :
    Calls Try.prog 11 #[.slice a1 l.length c1, .slice a2 sp.length c2] w (NewD w l sp) := by
  obtain ⟨W1, HW1⟩ : ∃ W1, Hid (w.alloc (.cells #[.slice none 0 0, .slice none 0 0, .int .i64 0, .int .i64 0, .bool false, .int .i64 0] 31) = W1) := ⟨_, rfl⟩
  have HB1 : Hid (Below w.heap.size w W1) := by rw [← HW1.out]; exact bel1 w _
  have hr1 : W1.heap[w.heap.size]? = some (.cells #[.slice none 0 0, .slice none 0 0, .int .i64 0, .int .i64 0, .bool false, .int .i64 0] 31 (0, 0)) := by rw [← HW1.out]; exact heap_alloc_last w _
  have HR1 := Hid_of hr1
  have hgr := group_any a1 c1 l W1 (by omega) k1 (h1.keep HB1.out)
  have HNO : Hid (¬ Mb.nw l sp → ∀ W, Below W1.heap.size W1 W → (put6 W w.heap.size (.slice none 0 0) (.slice none 0 0) (.int .i64 0) (.int .i64 (-1)) (.bool false) (.int .i64 (-1))).heap[w.heap.size]? = some (.cells #[.slice none 0 0, .slice none 0 0, .int .i64 0, .int .i64 (-1), .bool false, .int .i64 (-1)] 31 (0, 0)) ∧ NewD w l sp (.returned (.tuple #[.agg #[.slice none 0 0, .slice none 0 0, .int .i64 0, .int .i64 (-1), .bool false, .int .i64 (-1)], .bool false])) (put6 W w.heap.size (.slice none 0 0) (.slice none 0 0) (.int .i64 0) (.int .i64 (-1)) (.bool false) (.int .i64 (-1)))) := Hid_of fun hn W hb => ⟨put6_row (bel_row HR1.out hb) _ _ _ _ _ _, put6_f (bel_up HB1.out hb (Nat.le_refl _)) _ _ _ _ _ _, .inr ⟨hn, rfl⟩⟩
  have HC : Hid (∀ W, Below W1.heap.size W1 W → (∀ o, (∃ v, W.cell? ⟨w.heap.size, o, none⟩ = some v) ∨ 6 ≤ o) ∧ ∀ o, W.frozen? ⟨w.heap.size, o, none⟩ = false) := Hid_of fun W hb => by
    obtain ⟨⟨q0, q1, q2, q3, q4, q5⟩, qf⟩ := row6 (bel_row HR1.out hb)
    refine ⟨fun o => ?_, qf⟩
    match o with
    | 0 => exact .inl ⟨_, q0⟩
    | 1 => exact .inl ⟨_, q1⟩
    | 2 => exact .inl ⟨_, q2⟩
    | 3 => exact .inl ⟨_, q3⟩
    | 4 => exact .inl ⟨_, q4⟩
    | 5 => exact .inl ⟨_, q5⟩
    | n + 6 => exact .inr (by omega)
  have H1 := Hid_of h1
  have H2 := Hid_of h2
  clear hr1 h1 h2
  by_cases hg : (2 ≤ l.length ∧ l.length ≤ 8) ∧ Mb.Ap l
  case neg =>
    have hf : (decide (2 ≤ l.length ∧ l.length ≤ 8) && Mb.apB l) = false := by
      by_cases h8 : 2 ≤ l.length ∧ l.length ≤ 8
      · rw [Mb.apB_no (fun e => hg ⟨h8, e⟩), Bool.and_false]
      · rw [decide_eq_false h8, Bool.false_and]
    rw [hf] at hgr
    have HNN := Hid_of (HNO.out (fun h => hg ⟨⟨h.1.1, h.1.2.1⟩, h.1.2.2⟩))
    clear hf hg HNO
    go_enter Try.func11, Try.ntmps11
    go_upto_region 1 with fail
    rw [HW1.out]
    clear HW1
    go_wp2_with fail
    refine hgr.mono ?_
    rintro e w2 ⟨rfl, hb2⟩
    obtain ⟨hcs, hfs⟩ := HC.out w2 hb2
    obtain ⟨u0, q0⟩ := (hcs 0).resolve_right (by omega)
    obtain ⟨u1, q1⟩ := (hcs 1).resolve_right (by omega)
    obtain ⟨u2, q2⟩ := (hcs 2).resolve_right (by omega)
    obtain ⟨u3, q3⟩ := (hcs 3).resolve_right (by omega)
    obtain ⟨u4, q4⟩ := (hcs 4).resolve_right (by omega)
    obtain ⟨u5, q5⟩ := (hcs 5).resolve_right (by omega)
    have f0 := hfs 0
    have f1 := hfs 1
    have f2 := hfs 2
    have f3 := hfs 3
    have f4 := hfs 4
    have f5 := hfs 5
    clear hcs hfs
    obtain ⟨hy, hq⟩ := HNN.out w2 hb2
    have HY := Hid_of hy
    have HQ := Hid_of hq
    clear hgr hb2 hy hq
    go_wp2
    refine bodyPost_ret (v := .tuple #[.agg #[.slice none 0 0, .slice none 0 0, .int .i64 0, .int .i64 (-1), .bool false, .int .i64 (-1)], .bool false]) ?_ rfl HQ.out
    exact res31_2 f11_res _ _ w.heap.size _ _ _ _ _ _ rfl HY.out
  case pos =>
  rw [show (decide (2 ≤ l.length ∧ l.length ≤ 8) && Mb.apB l) = true by rw [decide_eq_true hg.1, Mb.apB_eq.2 hg.2]; rfl] at hgr
  by_cases h64 : 64 < sp.length
  · have d1 : decide ((64 : Int) < (sp.length : Int)) = true := decide_eq_true (by omega)
    have HNN := Hid_of (HNO.out (fun h => by have := h.2.right.len; omega))
    clear hg HNO
    go_enter Try.func11, Try.ntmps11
    go_upto_region 1 with fail
    rw [HW1.out]
    clear HW1
    go_wp2_with fail
    refine hgr.mono ?_
    rintro e w2 ⟨rfl, hb2⟩
    obtain ⟨hcs, hfs⟩ := HC.out w2 hb2
    obtain ⟨u0, q0⟩ := (hcs 0).resolve_right (by omega)
    obtain ⟨u1, q1⟩ := (hcs 1).resolve_right (by omega)
    obtain ⟨u2, q2⟩ := (hcs 2).resolve_right (by omega)
    obtain ⟨u3, q3⟩ := (hcs 3).resolve_right (by omega)
    obtain ⟨u4, q4⟩ := (hcs 4).resolve_right (by omega)
    obtain ⟨u5, q5⟩ := (hcs 5).resolve_right (by omega)
    have f0 := hfs 0
    have f1 := hfs 1
    have f2 := hfs 2
    have f3 := hfs 3
    have f4 := hfs 4
    have f5 := hfs 5
    clear hcs hfs
    obtain ⟨hy, hq⟩ := HNN.out w2 hb2
    have HY := Hid_of hy
    have HQ := Hid_of hq
    clear hgr hb2 hy hq
    go_wp2
    refine bodyPost_ret (v := .tuple #[.agg #[.slice none 0 0, .slice none 0 0, .int .i64 0, .int .i64 (-1), .bool false, .int .i64 (-1)], .bool false]) ?_ rfl HQ.out
    exact res31_2 f11_res _ _ w.heap.size _ _ _ _ _ _ rfl HY.out
  have d1 : decide ((64 : Int) < (sp.length : Int)) = false := decide_eq_false (by omega)
  by_cases hap : Mb.Ap (l ++ sp)
  case neg =>
    have HNN := Hid_of (HNO.out (fun h => hap h.2))
    have HAF := Hid_of (Mb.apB_no hap)
    clear hg HNO hap
    go_enter Try.func11, Try.ntmps11
    go_upto_region 1 with fail
    rw [HW1.out]
    clear HW1
    go_wp2_with fail
    refine hgr.mono ?_
    rintro e w2 ⟨rfl, hb2⟩
    have HB2 := Hid_of hb2
    have hbw2 := bel_up HB1.out hb2 (Nat.le_refl _)
    obtain ⟨a3, c3, w3, a4, c4, w4, hc3, hc4, ho4, hb24, hb23⟩ := copy2A w2 a1 c1 l a2 c2 sp (H1.out.keep hbw2) (H2.out.keep hbw2) (by omega)
    obtain ⟨ax, cx, e1, hx4, -⟩ := ho4.at
    simp only [Value.slice.injEq, true_and] at e1
    obtain ⟨rfl, rfl⟩ := e1
    have hpa := refApart_any a4 c4 (l ++ sp) w4 (by simp; omega) hx4.le hx4.at'
    have hb4 : Hid (Below W1.heap.size W1 w4) := Hid_of (bel_up HB2.out hb24 (Nat.le_refl _))
    obtain ⟨nl, hnl⟩ : ∃ nl, (l ++ sp).length = nl := ⟨_, rfl⟩
    rw [hnl] at hc4 hpa
    have HC3 := Hid_of hc3
    have HC4 := Hid_of hc4
    clear hbw2 hc3 hc4 ho4 hb24 hb23 hx4 hnl
    rw [HAF.out] at hpa
    clear hgr hb2
    go_wp2_with (first | (at_builtin; refine wpList_append_guarded (by rfl) _ _ 22 rfl (.slice none 0 0) (.slice a1 l.length c1) rfl rfl _ _ (HC3.out _) ?_) | (at_builtin; refine wpList_append_guarded (by rfl) _ _ 22 rfl (.slice a3 l.length c3) (.slice a2 sp.length c2) rfl rfl _ _ (HC4.out _) ?_))
    refine hpa.mono ?_
    rintro e w5 ⟨rfl, hb5⟩
    have hb2 := bel_up hb4.out hb5 (Nat.le_refl _)
    obtain ⟨hcs, hfs⟩ := HC.out w5 hb2
    obtain ⟨u0, q0⟩ := (hcs 0).resolve_right (by omega)
    obtain ⟨u1, q1⟩ := (hcs 1).resolve_right (by omega)
    obtain ⟨u2, q2⟩ := (hcs 2).resolve_right (by omega)
    obtain ⟨u3, q3⟩ := (hcs 3).resolve_right (by omega)
    obtain ⟨u4, q4⟩ := (hcs 4).resolve_right (by omega)
    obtain ⟨u5, q5⟩ := (hcs 5).resolve_right (by omega)
    have f0 := hfs 0
    have f1 := hfs 1
    have f2 := hfs 2
    have f3 := hfs 3
    have f4 := hfs 4
    have f5 := hfs 5
    clear hcs hfs
    obtain ⟨hy, hq⟩ := HNN.out w5 hb2
    have HY := Hid_of hy
    have HQ := Hid_of hq
    clear hpa hb2 hb5 hy hq
    go_wp2
    refine bodyPost_ret (v := .tuple #[.agg #[.slice none 0 0, .slice none 0 0, .int .i64 0, .int .i64 (-1), .bool false, .int .i64 (-1)], .bool false]) ?_ rfl HQ.out
    exact res31_2 f11_res _ _ w.heap.size _ _ _ _ _ _ rfl HY.out
  case pos =>
    have HAF := Hid_of (Mb.apB_eq.2 hap)
    have HNW : Hid (Mb.nw l sp) := Hid_of ⟨⟨hg.1.1, hg.1.2, hg.2⟩, hap⟩
    clear hg HNO hap
    go_enter Try.func11, Try.ntmps11
    go_upto_region 1 with fail
    rw [HW1.out]
    clear HW1
    go_wp2_with fail
    refine hgr.mono ?_
    rintro e w2 ⟨rfl, hb2⟩
    have HB2 := Hid_of hb2
    have hbw2 := bel_up HB1.out hb2 (Nat.le_refl _)
    obtain ⟨a3, c3, w3, a4, c4, w4, hc3, hc4, ho4, hb24, hb23⟩ := copy2A w2 a1 c1 l a2 c2 sp (H1.out.keep hbw2) (H2.out.keep hbw2) (by omega)
    obtain ⟨ax, cx, e1, hx4, -⟩ := ho4.at
    simp only [Value.slice.injEq, true_and] at e1
    obtain ⟨rfl, rfl⟩ := e1
    have hpa := refApart_any a4 c4 (l ++ sp) w4 (by simp; omega) hx4.le hx4.at'
    have hb4 : Hid (Below W1.heap.size W1 w4) := Hid_of (bel_up HB2.out hb24 (Nat.le_refl _))
    obtain ⟨nl, hnl⟩ : ∃ nl, (l ++ sp).length = nl := ⟨_, rfl⟩
    rw [hnl] at hc4 hpa
    have HC3 := Hid_of hc3
    have HC4 := Hid_of hc4
    clear hbw2 hc3 hc4 ho4 hb24 hb23 hx4 hnl
    rw [HAF.out] at hpa
    clear hgr hb2
    go_wp2_with (first | (at_builtin; refine wpList_append_guarded (by rfl) _ _ 22 rfl (.slice none 0 0) (.slice a1 l.length c1) rfl rfl _ _ (HC3.out _) ?_) | (at_builtin; refine wpList_append_guarded (by rfl) _ _ 22 rfl (.slice a3 l.length c3) (.slice a2 sp.length c2) rfl rfl _ _ (HC4.out _) ?_))
    refine hpa.mono ?_
    rintro e w5 ⟨rfl, hb5⟩
    have hb25 := bel_up hb4.out hb5 (Nat.le_refl _)
    have hbw5 := bel_up HB1.out hb25 (Nat.le_refl _)
    obtain ⟨a6, c6, w6, hc6, ho6, hb6⟩ := copyA w5 a1 c1 l (H1.out.keep hbw5) (by omega)
    obtain ⟨a7, c7, w7, hc7, ho7, hb7⟩ := copyA w6 a2 c2 sp (H2.out.keep (bel_up hbw5 hb6 (Nat.le_refl _))) (by omega)
    have hb17 := bel_up (bel_up hb25 hb6 (Nat.le_refl _)) hb7 (Nat.le_refl _)
    have HC6 := Hid_of hc6
    have HC7 := Hid_of hc7
    obtain ⟨hcs, hfs⟩ := HC.out w7 hb17
    obtain ⟨u0, q0⟩ := (hcs 0).resolve_right (by omega)
    obtain ⟨u1, q1⟩ := (hcs 1).resolve_right (by omega)
    obtain ⟨u2, q2⟩ := (hcs 2).resolve_right (by omega)
    obtain ⟨u3, q3⟩ := (hcs 3).resolve_right (by omega)
    obtain ⟨u4, q4⟩ := (hcs 4).resolve_right (by omega)
    obtain ⟨u5, q5⟩ := (hcs 5).resolve_right (by omega)
    have f0 := hfs 0
    have f1 := hfs 1
    have f2 := hfs 2
    have f3 := hfs 3
    have f4 := hfs 4
    have f5 := hfs 5
    have HY := Hid_of (put6_row (bel_row HR1.out hb17) (.slice a6 l.length c6) (.slice a7 sp.length c7) (.int .i64 1) (.int .i64 (-1)) (.bool false) (.int .i64 (-1)))
    have HQ : Hid (NewD w l sp (.returned (.tuple #[.agg #[.slice a6 l.length c6, .slice a7 sp.length c7, .int .i64 1, .int .i64 (-1), .bool false, .int .i64 (-1)], .bool true])) (put6 w7 w.heap.size (.slice a6 l.length c6) (.slice a7 sp.length c7) (.int .i64 1) (.int .i64 (-1)) (.bool false) (.int .i64 (-1)))) := Hid_of (by
      obtain ⟨ax, cx, e1, hx6, hbl6⟩ := (ho6.keep hb7).at
      simp only [Value.slice.injEq, true_and] at e1
      obtain ⟨rfl, rfl⟩ := e1
      obtain ⟨ay, cy, e2, hx7, hbl7⟩ := ho7.at
      simp only [Value.slice.injEq, true_and] at e2
      obtain ⟨rfl, rfl⟩ := e2
      have z1 := hbw5.size
      have z2 := hb6.size
      have z3 : w.heap.size < w5.heap.size := (Array.getElem?_eq_some_iff.1 (bel_row HR1.out hb25)).1
      refine ⟨put6_f (bel_up (bel_up hbw5 hb6 (Nat.le_refl _)) hb7 (Nat.le_refl _)) _ _ _ _ _ _, .inl ⟨HNW.out, a6, c6, a7, c7, rfl, ⟨hx6.keepBut fun k hk e => put6_oth (by have := (hbl6 k e).1; omega) _ _ _ _ _ _, hx7.keepBut fun k hk e => put6_oth (by have := (hbl7 k e).1; omega) _ _ _ _ _ _⟩, ?_⟩⟩
      have hz : w7.heap.size ≤ (put6 w7 w.heap.size (.slice a6 l.length c6) (.slice a7 sp.length c7) (.int .i64 1) (.int .i64 (-1)) (.bool false) (.int .i64 (-1))).heap.size := by simp [put6]
      rintro k (hk | hk)
      · have := hbl6 k hk; omega
      · have := hbl7 k hk; omega)
    clear hpa hb5 hb25 hbw5 hc6 ho6 hb6 hc7 ho7 hb7 hb17 hcs hfs
    go_wp2_with (first | (at_builtin; refine wpList_append_known rfl _ _ 22 rfl (.slice none 0 0) (.slice a1 l.length c1) rfl rfl _ _ (HC6.out _) ?_) | (at_builtin; refine wpList_append_known rfl _ _ 22 rfl (.slice none 0 0) (.slice a2 sp.length c2) rfl rfl _ _ (HC7.out _) ?_))
    refine bodyPost_ret (v := .tuple #[.agg #[.slice a6 l.length c6, .slice a7 sp.length c7, .int .i64 1, .int .i64 (-1), .bool false, .int .i64 (-1)], .bool true]) ?_ rfl HQ.out
    exact res31_2 f11_res _ _ w.heap.size _ _ _ _ _ _ rfl HY.out
end Go.Proofs.Ytacfndfkoiifhaa
