/-
  The document's group by value; its Fail and Done.
-/
import Derived.Test.YtacfndfkoiifhaaRK
namespace Go.Proofs.Ytacfndfkoiifhaa
open Go.RowKit
set_option linter.unusedVariables false
open Mb (S)

abbrev mV (aL : Option Addr) (cL : Nat) (aS : Option Addr) (cS : Nat) (s : S) : Value := .agg #[.slice aL s.l.length cL, .slice aS s.sp.length cS, .int .i64 s.ep, .int .i64 s.hole, .bool s.fl, .int .i64 s.gone]
/-- The rows of the document's group, somewhere. -/
structure XD (w : World) (aL : Option Addr) (cL : Nat) (aS : Option Addr) (cS : Nat) (s : S) : Prop where
  xl : XL il w aL cL s.l
  xs : XL il w aS cS s.sp
theorem XD.keep {w w' : World} {aL aS : Option Addr} {cL cS : Nat} {s : S} (h : XD w aL cL aS cS s) (hb : Below w.heap.size w w') : XD w' aL cL aS cS s := ⟨h.xl.keep hb, h.xs.keep hb⟩
theorem XD.keepBut {w w' : World} {aL aS : Option Addr} {cL cS : Nat} {s : S} (h : XD w aL cL aS cS s) (hb : ∀ k, k < w.heap.size → blk aL k ∨ blk aS k → w'.heap[k]? = w.heap[k]?) : XD w' aL cL aS cS s := ⟨h.xl.keepBut fun k hk e => hb k hk (.inl e), h.xs.keepBut fun k hk e => hb k hk (.inr e)⟩
/-- Six cells of a block set. -/
def put6 (w : World) (g : Nat) (a b c d e f : Value) : World := (((((w.setCell ⟨g, 0, none⟩ a).setCell ⟨g, 1, none⟩ b).setCell ⟨g, 2, none⟩ c).setCell ⟨g, 3, none⟩ d).setCell ⟨g, 4, none⟩ e).setCell ⟨g, 5, none⟩ f
theorem put6_row {w : World} {g : Nat} {t : TypeId} {v0 v1 v2 v3 v4 v5 : Value} (h : w.heap[g]? = some (.cells #[v0, v1, v2, v3, v4, v5] t (0, 0))) (a b c d e f : Value) : (put6 w g a b c d e f).heap[g]? = some (.cells #[a, b, c, d, e, f] t (0, 0)) :=
  heap_setCell_same _ g 5 _ _ _ (heap_setCell_same _ g 4 _ _ _ (heap_setCell_same _ g 3 _ _ _ (heap_setCell_same _ g 2 _ _ _ (heap_setCell_same _ g 1 _ _ _ (heap_setCell_same w g 0 _ _ _ h)))))
theorem put6_bel {w0 w : World} {B g : Nat} (h : Below B w0 w) (hg : B ≤ g) (a b c d e f : Value) : Below B w0 (put6 w g a b c d e f) := (((((h.setCell hg _).setCell hg _).setCell hg _).setCell hg _).setCell hg _).setCell hg _
theorem put6_oth {w : World} {g k : Nat} (h : k ≠ g) (a b c d e f : Value) : (put6 w g a b c d e f).heap[k]? = w.heap[k]? := by
  unfold put6
  rw [heap_setCell_other _ ⟨g, 5, none⟩ k _ h, heap_setCell_other _ ⟨g, 4, none⟩ k _ h, heap_setCell_other _ ⟨g, 3, none⟩ k _ h, heap_setCell_other _ ⟨g, 2, none⟩ k _ h, heap_setCell_other _ ⟨g, 1, none⟩ k _ h, heap_setCell_other _ ⟨g, 0, none⟩ k _ h]
theorem Try.size31 : (Try.prog.info? 31).map (·.size) = some 6 := by kernel_rfl
theorem res31_2 {fn : Func} {p u : Tmp} (h : fn.results = #[.cell p 31, .tmp u]) (tmps : Array Value) (w : World) (g : Nat) (v0 v1 v2 v3 v4 v5 : Value) (hp : tmps.getD p undef = .pointer (some ⟨g, 0, none⟩)) (hg : w.heap[g]? = some (.cells #[v0, v1, v2, v3, v4, v5] 31 (0, 0))) :
    (results fn tmps).run Try.prog w = .ok (.tuple #[.agg #[v0, v1, v2, v3, v4, v5], tmps.getD u undef]) w := by
  have hp' : tmps[p]?.getD undef = .pointer (some ⟨g, 0, none⟩) := by simpa using hp
  rw [results_cell_tmp h]
  simp [asAddr, hp', run_loadVar_row w g 31 31 #[v0, v1, v2, v3, v4, v5] (0, 0) _ hg Try.underlying31 rfl Try.size31]
theorem res31_3 {fn : Func} {p u u' : Tmp} (h : fn.results = #[.cell p 31, .tmp u, .tmp u']) (tmps : Array Value) (w : World) (g : Nat) (v0 v1 v2 v3 v4 v5 : Value) (hp : tmps.getD p undef = .pointer (some ⟨g, 0, none⟩)) (hg : w.heap[g]? = some (.cells #[v0, v1, v2, v3, v4, v5] 31 (0, 0))) :
    (results fn tmps).run Try.prog w = .ok (.tuple #[.agg #[v0, v1, v2, v3, v4, v5], tmps.getD u undef, tmps.getD u' undef]) w := by
  have hp' : tmps[p]?.getD undef = .pointer (some ⟨g, 0, none⟩) := by simpa using hp
  have hld := run_loadVar_row (P := Try.prog) w g 31 31 #[v0, v1, v2, v3, v4, v5] (0, 0) _ hg Try.underlying31 rfl Try.size31
  simp [results, h, asAddr, hp', hld]
theorem f31_res : Try.f31.results = #[.cell 6 31, .tmp 7] := rfl
theorem f33_res : Try.f33.results = #[.cell 4 31, .tmp 5] := rfl
theorem f34_res : Try.f34.results = #[.cell 4 31, .tmp 5] := rfl
theorem f32_res : Try.f32.results = #[.cell 4 31, .tmp 5, .tmp 6] := rfl
theorem f11_res : Try.f11.results = #[.cell 4 31, .tmp 5] := rfl
theorem f26_res : Try.f26.results = #[.cell 2 31, .tmp 3] := rfl
/-- What a deed of the document's tells that leaves its rows. -/
def RD (w : World) (aL : Option Addr) (cL : Nat) (aS : Option Addr) (cS : Nat) (s' : S) (c : Int) (e : Ending) (w' : World) : Prop := e = .returned (.tuple #[mV aL cL aS cS s', .int .i64 c]) ∧ Below w.heap.size w w'
section
variable {w : World} {aL aS : Option Addr} {cL cS : Nat} {s : S}
set_option maxRecDepth 100000 in
set_option maxHeartbeats 2000000 in
theorem rfail_any (h : XD w aL cL aS cS s) (hn : s.l.length ≤ 1000000) (he : 0 ≤ s.ep ∧ s.ep ≤ 1000000) (a k : Int) : Calls Try.prog 31 #[mV aL cL aS cS s, .int .i64 a, .int .i64 k] w (RD w aL cL aS cS (Mb.fs s a k) (Mb.fc s a k)) := by
  obtain ⟨W1, HW1⟩ : ∃ W1, Hid ((w.alloc (.cells #[.slice aL s.l.length cL, .slice aS s.sp.length cS, .int .i64 s.ep, .int .i64 s.hole, .bool s.fl, .int .i64 s.gone] 31)).alloc (.cells #[.slice none 0 0, .slice none 0 0, .int .i64 0, .int .i64 0, .bool false, .int .i64 0] 31) = W1) := ⟨_, rfl⟩
  have HB1 : Hid (Below w.heap.size w W1) := by rw [← HW1.out]; exact bel_up (bel1 w _) (bel1 _ _) (Nat.le_refl _)
  have hx1 : W1.heap[w.heap.size]? = some (.cells #[.slice aL s.l.length cL, .slice aS s.sp.length cS, .int .i64 s.ep, .int .i64 s.hole, .bool s.fl, .int .i64 s.gone] 31 (0, 0)) := by rw [← HW1.out]; exact heap_alloc2_old w _ _
  have hr1 : W1.heap[w.heap.size + 1]? = some (.cells #[.slice none 0 0, .slice none 0 0, .int .i64 0, .int .i64 0, .bool false, .int .i64 0] 31 (0, 0)) := by rw [← HW1.out]; exact heap_alloc2_new w _ _
  obtain ⟨⟨x0, x1, x2, x3, x4, x5⟩, xf⟩ := row6 hx1
  obtain ⟨⟨z0, z1, z2, z3, z4, z5⟩, zf⟩ := row6 hr1
  have g0 := zf 0
  have g1 := zf 1
  have g2 := zf 2
  have g3 := zf 3
  have g4 := zf 4
  have g5 := zf 5
  have f0 := xf 0
  have f1 := xf 1
  have f2 := xf 2
  have f3 := xf 3
  have f4 := xf 4
  have f5 := xf 5
  have HR1 := Hid_of hr1
  clear xf zf
  have hat := refAt_any aL cL s.l a W1 hn (h.xl.at'.keep HB1.out)
  have HROW := Hid_of (put6_row HR1.out (.slice aL s.l.length cL) (.slice aS s.sp.length cS) (.int .i64 s.ep) (.int .i64 s.hole) (.bool s.fl) (.int .i64 s.gone))
  have HNO : Hid (¬ Mb.fc s a k = 0 → RD w aL cL aS cS (Mb.fs s a k) (Mb.fc s a k) (.returned (.tuple #[mV aL cL aS cS s, .int .i64 (Mb.fc s a k)])) (put6 W1 (w.heap.size + 1) (.slice aL s.l.length cL) (.slice aS s.sp.length cS) (.int .i64 s.ep) (.int .i64 s.hole) (.bool s.fl) (.int .i64 s.gone))) := Hid_of fun e => ⟨by rw [Mb.fs_no e], put6_bel HB1.out (by omega) _ _ _ _ _ _⟩
  clear hx1 hr1 h
  rcases Mb.fc_cases s a k with ⟨k1, k2⟩ | ⟨k1, k2, k3⟩ | ⟨k1, k2, k3, k4⟩ | ⟨k1, k2, k3, k4⟩
  · have HQ := Hid_of (HNO.out (by rw [k2]; decide))
    rw [k2] at HQ ⊢
    have d1 : decide (Mb.pl s.l a < 0) = true := decide_eq_true k1
    clear HNO k2
    go_enter Try.func31, Try.ntmps31
    go_upto_region 1 with fail
    rw [HW1.out]
    clear HW1
    go_wp2_with fail
    refine hat.mono ?_
    rintro e w2 ⟨rfl, hw⟩
    subst w2
    go_wp2
    refine bodyPost_ret (v := .tuple #[mV aL cL aS cS s, .int .i64 7]) ?_ rfl HQ.out
    exact res31_2 f31_res _ _ (w.heap.size + 1) _ _ _ _ _ _ rfl HROW.out
  · have HQ := Hid_of (HNO.out (by rw [k3]; decide))
    rw [k3] at HQ ⊢
    have d1 : decide (Mb.pl s.l a < 0) = false := decide_eq_false (by omega)
    have d2 : decide (0 ≤ s.hole) = true := decide_eq_true k2
    clear HNO k3
    go_enter Try.func31, Try.ntmps31
    go_upto_region 1 with fail
    rw [HW1.out]
    clear HW1
    go_wp2_with fail
    refine hat.mono ?_
    rintro e w2 ⟨rfl, hw⟩
    subst w2
    go_wp2
    refine bodyPost_ret (v := .tuple #[mV aL cL aS cS s, .int .i64 9]) ?_ rfl HQ.out
    exact res31_2 f31_res _ _ (w.heap.size + 1) _ _ _ _ _ _ rfl HROW.out
  · have HQ := Hid_of (HNO.out (by rw [k4]; decide))
    rw [k4] at HQ ⊢
    have d1 : decide (Mb.pl s.l a < 0) = false := decide_eq_false (by omega)
    have d2 : decide (0 ≤ s.hole) = false := decide_eq_false (by omega)
    have d3 : (k == s.ep) = false := beq_false_of_ne k3
    have d4 : (k != s.ep) = true := bne_iff_ne.2 k3
    clear HNO k4
    go_enter Try.func31, Try.ntmps31
    go_upto_region 1 with fail
    rw [HW1.out]
    clear HW1
    go_wp2_with fail
    refine hat.mono ?_
    rintro e w2 ⟨rfl, hw⟩
    subst w2
    go_wp2
    refine bodyPost_ret (v := .tuple #[mV aL cL aS cS s, .int .i64 10]) ?_ rfl HQ.out
    exact res31_2 f31_res _ _ (w.heap.size + 1) _ _ _ _ _ _ rfl HROW.out
  · have hne : w.heap.size + 1 ≠ w.heap.size := by omega
    have HS : Hid (((((W1.setCell ⟨w.heap.size, 3, none⟩ (.int .i64 (Mb.pl s.l a))).setCell ⟨w.heap.size, 5, none⟩ (.int .i64 a)).setCell ⟨w.heap.size, 4, none⟩ (.bool false)).setCell ⟨w.heap.size, 2, none⟩ (.int .i64 (s.ep + 1))).heap[w.heap.size + 1]? = W1.heap[w.heap.size + 1]?) := Hid_of (by
      rw [heap_setCell_other _ ⟨w.heap.size, 2, none⟩ _ _ hne, heap_setCell_other _ ⟨w.heap.size, 4, none⟩ _ _ hne, heap_setCell_other _ ⟨w.heap.size, 5, none⟩ _ _ hne, heap_setCell_other _ ⟨w.heap.size, 3, none⟩ _ _ hne])
    have HY := Hid_of (put6_row (HS.out.trans HR1.out) (.slice aL s.l.length cL) (.slice aS s.sp.length cS) (.int .i64 (s.ep + 1)) (.int .i64 (Mb.pl s.l a)) (.bool false) (.int .i64 a))
    have HQ : Hid (RD w aL cL aS cS (Mb.fs s a k) (Mb.fc s a k) (.returned (.tuple #[mV aL cL aS cS (Mb.fs s a k), .int .i64 (Mb.fc s a k)])) (put6 ((((W1.setCell ⟨w.heap.size, 3, none⟩ (.int .i64 (Mb.pl s.l a))).setCell ⟨w.heap.size, 5, none⟩ (.int .i64 a)).setCell ⟨w.heap.size, 4, none⟩ (.bool false)).setCell ⟨w.heap.size, 2, none⟩ (.int .i64 (s.ep + 1))) (w.heap.size + 1) (.slice aL s.l.length cL) (.slice aS s.sp.length cS) (.int .i64 (s.ep + 1)) (.int .i64 (Mb.pl s.l a)) (.bool false) (.int .i64 a))) := Hid_of ⟨rfl, put6_bel ((((HB1.out.setCell (Nat.le_refl _) _).setCell (Nat.le_refl _) _).setCell (Nat.le_refl _) _).setCell (Nat.le_refl _) _) (by omega) _ _ _ _ _ _⟩
    rw [Mb.fs_yes k4] at HQ ⊢
    rw [k4] at HQ ⊢
    have hwr : IntKind.i64.wrap (s.ep + 1) = s.ep + 1 := by rw [IntKind.wrap_i64]; omega
    have d1 : decide (Mb.pl s.l a < 0) = false := decide_eq_false (by omega)
    have d2 : decide (0 ≤ s.hole) = false := decide_eq_false (by omega)
    have d3 : (k == s.ep) = true := beq_iff_eq.2 k3
    clear HNO k4
    generalize Mb.pl s.l a = p at *
    go_enter Try.func31, Try.ntmps31
    go_upto_region 1 with fail
    rw [HW1.out]
    clear HW1
    go_wp2_with fail
    refine hat.mono ?_
    rintro e w2 ⟨rfl, hw⟩
    subst w2
    go_wp2
    refine bodyPost_ret (v := .tuple #[mV aL cL aS cS ⟨s.l, s.sp, s.ep + 1, p, false, a⟩, .int .i64 0]) ?_ rfl HQ.out
    exact res31_2 f31_res _ _ (w.heap.size + 1) _ _ _ _ _ _ rfl HY.out
set_option maxRecDepth 100000 in
set_option maxHeartbeats 2000000 in
theorem rdoneQ_any (q : Bool) (hq : s.fl = q) (g : Mb.G s) (he : s.ep ≤ 1000000) (a : Int) : Calls Try.prog 33 #[.agg #[.slice aL s.l.length cL, .slice aS s.sp.length cS, .int .i64 s.ep, .int .i64 s.hole, .bool q, .int .i64 s.gone], .int .i64 a] w (RD w aL cL aS cS (Mb.ds s a) (Mb.dc s a)) := by
  obtain ⟨W1, HW1⟩ : ∃ W1, Hid ((w.alloc (.cells #[.slice aL s.l.length cL, .slice aS s.sp.length cS, .int .i64 s.ep, .int .i64 s.hole, .bool q, .int .i64 s.gone] 31)).alloc (.cells #[.slice none 0 0, .slice none 0 0, .int .i64 0, .int .i64 0, .bool false, .int .i64 0] 31) = W1) := ⟨_, rfl⟩
  have HB1 : Hid (Below w.heap.size w W1) := by rw [← HW1.out]; exact bel_up (bel1 w _) (bel1 _ _) (Nat.le_refl _)
  have hx1 : W1.heap[w.heap.size]? = some (.cells #[.slice aL s.l.length cL, .slice aS s.sp.length cS, .int .i64 s.ep, .int .i64 s.hole, .bool q, .int .i64 s.gone] 31 (0, 0)) := by rw [← HW1.out]; exact heap_alloc2_old w _ _
  have hr1 : W1.heap[w.heap.size + 1]? = some (.cells #[.slice none 0 0, .slice none 0 0, .int .i64 0, .int .i64 0, .bool false, .int .i64 0] 31 (0, 0)) := by rw [← HW1.out]; exact heap_alloc2_new w _ _
  obtain ⟨⟨x0, x1, x2, x3, x4, x5⟩, xf⟩ := row6 hx1
  obtain ⟨⟨z0, z1, z2, z3, z4, z5⟩, zf⟩ := row6 hr1
  have g0 := zf 0
  have g1 := zf 1
  have g2 := zf 2
  have g3 := zf 3
  have g4 := zf 4
  have g5 := zf 5
  have f0 := xf 0
  have f1 := xf 1
  have f2 := xf 2
  have f3 := xf 3
  have f4 := xf 4
  have f5 := xf 5
  have HR1 := Hid_of hr1
  clear xf zf
  have HROW := Hid_of (put6_row HR1.out (.slice aL s.l.length cL) (.slice aS s.sp.length cS) (.int .i64 s.ep) (.int .i64 s.hole) (.bool q) (.int .i64 s.gone))
  have HNO : Hid (¬ Mb.dc s a = 0 → RD w aL cL aS cS (Mb.ds s a) (Mb.dc s a) (.returned (.tuple #[.agg #[.slice aL s.l.length cL, .slice aS s.sp.length cS, .int .i64 s.ep, .int .i64 s.hole, .bool q, .int .i64 s.gone], .int .i64 (Mb.dc s a)])) (put6 W1 (w.heap.size + 1) (.slice aL s.l.length cL) (.slice aS s.sp.length cS) (.int .i64 s.ep) (.int .i64 s.hole) (.bool q) (.int .i64 s.gone))) := Hid_of fun e => ⟨by rw [Mb.ds_no e, ← hq], put6_bel HB1.out (by omega) _ _ _ _ _ _⟩
  clear hx1 hr1
  have he0 := g.ep
  have hlo := g.lo
  rcases Mb.dc_cases g a with ⟨k1, k2⟩ | ⟨k1, k2, k3⟩ | ⟨k1, k2, k3, k4⟩
  · have HQ := Hid_of (HNO.out (by rw [k2]; decide))
    rw [k2] at HQ ⊢
    have d1 : (a == s.ep) = false := beq_false_of_ne k1
    have d4 : (a != s.ep) = true := bne_iff_ne.2 k1
    clear hq g
    clear HNO k2
    go_enter Try.func33, Try.ntmps33
    go_upto_region 1 with fail
    rw [HW1.out]
    clear HW1
    go_wp2
    refine bodyPost_ret (v := .tuple #[.agg #[.slice aL s.l.length cL, .slice aS s.sp.length cS, .int .i64 s.ep, .int .i64 s.hole, .bool q, .int .i64 s.gone], .int .i64 10]) ?_ rfl HQ.out
    exact res31_2 f33_res _ _ (w.heap.size + 1) _ _ _ _ _ _ rfl HROW.out
  · obtain rfl : q = false := by rw [← hq, k2]
    clear hq k2 g
    by_cases hh : s.hole < 0
    · have HQ := Hid_of (HNO.out (by rw [k3]; decide))
      rw [k3] at HQ ⊢
      have d1 : (a == s.ep) = true := beq_iff_eq.2 k1
      have d4 : (a != s.ep) = false := bne_eq_false_iff_eq.2 k1
      have d2 : decide (s.hole < 0) = true := decide_eq_true hh
      clear k1 hh
      clear HNO k3
      go_enter Try.func33, Try.ntmps33
      go_upto_region 1 with fail
      rw [HW1.out]
      clear HW1
      go_wp2
      refine bodyPost_ret (v := .tuple #[.agg #[.slice aL s.l.length cL, .slice aS s.sp.length cS, .int .i64 s.ep, .int .i64 s.hole, .bool false, .int .i64 s.gone], .int .i64 16]) ?_ rfl HQ.out
      exact res31_2 f33_res _ _ (w.heap.size + 1) _ _ _ _ _ _ rfl HROW.out
    · have HQ := Hid_of (HNO.out (by rw [k3]; decide))
      rw [k3] at HQ ⊢
      have d1 : (a == s.ep) = true := beq_iff_eq.2 k1
      have d4 : (a != s.ep) = false := bne_eq_false_iff_eq.2 k1
      have d2 : decide (s.hole < 0) = false := decide_eq_false hh
      clear k1 hh
      clear HNO k3
      go_enter Try.func33, Try.ntmps33
      go_upto_region 1 with fail
      rw [HW1.out]
      clear HW1
      go_wp2
      refine bodyPost_ret (v := .tuple #[.agg #[.slice aL s.l.length cL, .slice aS s.sp.length cS, .int .i64 s.ep, .int .i64 s.hole, .bool false, .int .i64 s.gone], .int .i64 16]) ?_ rfl HQ.out
      exact res31_2 f33_res _ _ (w.heap.size + 1) _ _ _ _ _ _ rfl HROW.out
  · obtain rfl : q = true := by rw [← hq, k2]
    have hne : w.heap.size + 1 ≠ w.heap.size := by omega
    have HS : Hid (((((W1.setCell ⟨w.heap.size, 3, none⟩ (.int .i64 (-1))).setCell ⟨w.heap.size, 5, none⟩ (.int .i64 (-1))).setCell ⟨w.heap.size, 4, none⟩ (.bool false)).setCell ⟨w.heap.size, 2, none⟩ (.int .i64 (s.ep + 1))).heap[w.heap.size + 1]? = W1.heap[w.heap.size + 1]?) := Hid_of (by
      rw [heap_setCell_other _ ⟨w.heap.size, 2, none⟩ _ _ hne, heap_setCell_other _ ⟨w.heap.size, 4, none⟩ _ _ hne, heap_setCell_other _ ⟨w.heap.size, 5, none⟩ _ _ hne, heap_setCell_other _ ⟨w.heap.size, 3, none⟩ _ _ hne])
    have HY := Hid_of (put6_row (HS.out.trans HR1.out) (.slice aL s.l.length cL) (.slice aS s.sp.length cS) (.int .i64 (s.ep + 1)) (.int .i64 (-1)) (.bool false) (.int .i64 (-1)))
    have HQ : Hid (RD w aL cL aS cS (Mb.ds s a) (Mb.dc s a) (.returned (.tuple #[mV aL cL aS cS (Mb.ds s a), .int .i64 (Mb.dc s a)])) (put6 ((((W1.setCell ⟨w.heap.size, 3, none⟩ (.int .i64 (-1))).setCell ⟨w.heap.size, 5, none⟩ (.int .i64 (-1))).setCell ⟨w.heap.size, 4, none⟩ (.bool false)).setCell ⟨w.heap.size, 2, none⟩ (.int .i64 (s.ep + 1))) (w.heap.size + 1) (.slice aL s.l.length cL) (.slice aS s.sp.length cS) (.int .i64 (s.ep + 1)) (.int .i64 (-1)) (.bool false) (.int .i64 (-1)))) := Hid_of ⟨rfl, put6_bel ((((HB1.out.setCell (Nat.le_refl _) _).setCell (Nat.le_refl _) _).setCell (Nat.le_refl _) _).setCell (Nat.le_refl _) _) (by omega) _ _ _ _ _ _⟩
    rw [Mb.ds_yes k4] at HQ ⊢
    rw [k4] at HQ ⊢
    have hwr : IntKind.i64.wrap (s.ep + 1) = s.ep + 1 := by rw [IntKind.wrap_i64]; omega
    have d1 : (a == s.ep) = true := beq_iff_eq.2 k1
    have d4 : (a != s.ep) = false := bne_eq_false_iff_eq.2 k1
    have d2 : decide (s.hole < 0) = false := decide_eq_false (by omega)
    clear HNO k4 hq k1 k2 g
    go_enter Try.func33, Try.ntmps33
    go_upto_region 1 with fail
    rw [HW1.out]
    clear HW1
    go_wp2
    refine bodyPost_ret (v := .tuple #[mV aL cL aS cS ⟨s.l, s.sp, s.ep + 1, -1, false, -1⟩, .int .i64 0]) ?_ rfl HQ.out
    exact res31_2 f33_res _ _ (w.heap.size + 1) _ _ _ _ _ _ rfl HY.out
theorem rdoneD_any (g : Mb.G s) (he : s.ep ≤ 1000000) (a : Int) : Calls Try.prog 33 #[mV aL cL aS cS s, .int .i64 a] w (RD w aL cL aS cS (Mb.ds s a) (Mb.dc s a)) := rdoneQ_any s.fl rfl g he a
end
end Go.Proofs.Ytacfndfkoiifhaa
