import Derived.Test.YtlnedgjikkhplaaGreatGP24
set_option maxRecDepth 100000
set_option maxHeartbeats 8000000
set_option linter.unusedVariables false
set_option linter.unusedSimpArgs false
namespace Go.Proofs.YtlnedgjikkhplaaGreat.Na
open Go.RowKit
open M (E V)
theorem f23_res : Tryz.f23.results = #[.cell 6 39, .tmp 7, .tmp 8] := rfl
def RPr (w : World) (a : M.S) (ad : Option Addr) (c : Nat) (x : E) (k : Int) (e : Ending) (w' : World) : Prop :=
 ∃ a' c', e = .returned (.tuple #[aV (M.prs a x k) ad c, .slice a' (M.prl a x k).length c', .bool (M.prb a x k)]) ∧ XL vl w' a' c' (M.prl a x k) ∧ (∀ j, blk a' j → w.heap.size ≤ j ∧ j < w'.heap.size) ∧ Below w.heap.size w w'
theorem rpromise_any (a : M.S) (ad : Option Addr) (c : Nat) (x : E) (k : Int) (w : World) (hx : XL vl w ad c a.l) (hl : a.l.length ≤ 1024) : Calls Tryz.prog 23 #[aV a ad c, bV x, .int .i64 k] w (RPr w a ad c x k) := by
 obtain ⟨W1, HW1⟩ := Nh (((w.alloc (.cells #[.int .i64 a.p.i, .int .i64 a.p.t, .int .i64 a.base, .slice ad a.l.length c] 39)).alloc (.cells #[.int .i64 x.i, .int .i64 x.t] 36)).alloc (.cells #[.int .i64 0, .int .i64 0, .int .i64 0, .slice none 0 0] 39))
 have hb2 := bel2 w (.cells #[.int .i64 a.p.i, .int .i64 a.p.t, .int .i64 a.base, .slice ad a.l.length c] 39) (.cells #[.int .i64 x.i, .int .i64 x.t] 36)
 have hs2 : ((w.alloc (.cells #[.int .i64 a.p.i, .int .i64 a.p.t, .int .i64 a.base, .slice ad a.l.length c] 39)).alloc (.cells #[.int .i64 x.i, .int .i64 x.t] 36)).heap.size = w.heap.size + 2 := by simp
 have hb3 := bel1 ((w.alloc (.cells #[.int .i64 a.p.i, .int .i64 a.p.t, .int .i64 a.base, .slice ad a.l.length c] 39)).alloc (.cells #[.int .i64 x.i, .int .i64 x.t] 36)) (.cells #[.int .i64 0, .int .i64 0, .int .i64 0, .slice none 0 0] 39)
 have hr3 := heap_alloc_last ((w.alloc (.cells #[.int .i64 a.p.i, .int .i64 a.p.t, .int .i64 a.base, .slice ad a.l.length c] 39)).alloc (.cells #[.int .i64 x.i, .int .i64 x.t] 36)) (.cells #[.int .i64 0, .int .i64 0, .int .i64 0, .slice none 0 0] 39)
 have hr1 := Br (heap_alloc2_old w (.cells #[.int .i64 a.p.i, .int .i64 a.p.t, .int .i64 a.base, .slice ad a.l.length c] 39) (.cells #[.int .i64 x.i, .int .i64 x.t] 36)) hb3
 have hr2 := Br (heap_alloc2_new w (.cells #[.int .i64 a.p.i, .int .i64 a.p.t, .int .i64 a.base, .slice ad a.l.length c] 39) (.cells #[.int .i64 x.i, .int .i64 x.t] 36)) hb3
 have hb1 := Bu hb2 hb3 Lr
 rw [hs2] at hr3; rw [HW1.out] at hr1 hr2 hr3 hb1
 have hs1 : W1.heap.size = w.heap.size + 3 := by rw [← HW1.out]; simp
 have HB1 := Hf hb1
 have HR1 := Hf hr1
 have HR2 := Hf hr2
 have HR3 := Hf hr3
 have HX := Hf hx
 obtain ⟨⟨z0, z1, z2, z3⟩, _⟩ := row4 hr1
 obtain ⟨⟨u0, u1⟩, _⟩ := row2 hr2
 have hm := rmay_any a ad c x W1
 have HP : Hid (M.prb a x k = (M.may a x && decide (a.base ≤ k))) := rfl
 clear hb2 hs2 hb3 hr1 hr2 hr3 hb1 hx
 have HNOP : Hid (M.prb a x k = false → ∀ w', Below w.heap.size w w' → RPr w a ad c x k (.returned (.tuple #[aV a ad c, .slice none 0 0, .bool false])) w') := by
  intro hp w' hb
  have e : M.prl a x k = [] := by unfold M.prl; rw [hp]; rfl
  refine ⟨none, 0, by rw [hp, M.prs_no hp, e]; rfl, by rw [e]; exact XL.emp _, fun j hj => ?_, hb⟩
  obtain ⟨_, _, h⟩ := hj
  cases h
 cases hmx : M.may a x with
 | false =>
  rw [hmx] at hm
  have HNO := Hf (HNOP.out (by rw [HP.out, hmx]; rfl))
  clear HNOP HP hmx
  go_enter Tryz.func23, Tryz.ntmps23
  go_upto_region 1 with fail
  rw [HW1.out]
  go_wp2_with fail
  refine hm.mono ?_; rintro e w2 ⟨rfl, hb2⟩
  have hR1 := Br HR1.out hb2
  have hR3 := Br HR3.out hb2
  obtain ⟨⟨x0, x1, x2, x3⟩, _⟩ := row4 hR1
  obtain ⟨⟨q0, q1, q2, q3⟩, qf⟩ := row4 hR3
  have qf0 := qf 0
  have qf1 := qf 1
  have qf2 := qf 2
  have qf3 := qf 3
  have HROW := Hf (put4_row hR3 (.int .i64 a.p.i) (.int .i64 a.p.t) (.int .i64 a.base) (.slice ad a.l.length c))
  have HF := Hf (HNO.out _ (put4_bel (g := w.heap.size + 2) (Bu HB1.out hb2 Lr) (by omega) (.int .i64 a.p.i) (.int .i64 a.p.t) (.int .i64 a.base) (.slice ad a.l.length c)))
  clear hb2 hm hR1 hR3 qf HNO z0 z1 z2 z3 u0 u1; go_wp2
  refine bodyPost_ret (v := .tuple #[aV a ad c, .slice none 0 0, .bool false]) ?_ rfl HF.out
  exact res31_3 f23_res _ _ (w.heap.size + 2) _ _ _ _ rfl HROW.out
 | true =>
  rw [hmx] at hm
  by_cases hk : a.base ≤ k
  ·have hp : M.prb a x k = true := by rw [HP.out, hmx, decide_eq_true hk]; rfl
   have d0 : decide (k < a.base) = false := decide_eq_false (by omega)
   have HQP : Hid (∀ w2, Below W1.heap.size W1 w2 → ∀ w4 a4 c4, Below (put2 w2 w.heap.size (.int .i64 x.i) (.int .i64 x.t)).drew.heap.size (put2 w2 w.heap.size (.int .i64 x.i) (.int .i64 x.t)).drew w4 → XL vl w4 a4 c4 (M.vts a.l k) → (∀ j, blk a4 j → (put2 w2 w.heap.size (.int .i64 x.i) (.int .i64 x.t)).drew.heap.size ≤ j ∧ j < w4.heap.size) → RPr w a ad c x k (.returned (.tuple #[.agg #[.int .i64 x.i, .int .i64 x.t, .int .i64 a.base, .slice ad a.l.length c], .slice a4 (M.vts a.l k).length c4, .bool true])) (put4 w4 (w.heap.size + 2) (.int .i64 x.i) (.int .i64 x.t) (.int .i64 a.base) (.slice ad a.l.length c))) := by
    intro w2 hb2 w4 a4 c4 hb4 hx4 hbk4
    have e : M.prl a x k = M.vts a.l k := by unfold M.prl; rw [hp]; rfl
    have hbA : Below w.heap.size w (put2 w2 w.heap.size (.int .i64 x.i) (.int .i64 x.t)).drew := ((Bu HB1.out hb2 Lr).setCell (p := ⟨w.heap.size, 0, none⟩) Lr _ |>.setCell (p := ⟨w.heap.size, 1, none⟩) Lr _).drew
    have hg : (fun k => k = w.heap.size + 2) (w.heap.size + 2) := rfl
    have hF := fr_set (fr_set (fr_set (fr_set (Fr.refl w4 fun k => k = w.heap.size + 2) hg 0 (.int .i64 x.i)) hg 1 (.int .i64 x.t)) hg 2 (.int .i64 a.base)) hg 3 (.slice ad a.l.length c)
    have hsz : (put2 w2 w.heap.size (.int .i64 x.i) (.int .i64 x.t)).drew.heap.size = w2.heap.size := by simp [put2, World.drew]
    have hs2 := hb2.size
    obtain ⟨q1, q2, q3⟩ := ds_of (Bu hbA hb4 Lr) hx4 hbk4 hF (fun j hj => by subst hj; omega)
    refine ⟨a4, c4, by rw [hp, M.prs_yes hp, e], by rw [e]; exact q1, q2, q3⟩
   clear HNOP HP hmx hp hk
   go_enter Tryz.func23, Tryz.ntmps23
   go_upto_region 1 with fail
   rw [HW1.out]; clear HW1
   go_wp2_with fail
   refine hm.mono ?_; rintro e w2 ⟨rfl, hb2⟩
   have HQ' := Hf (HQP.out w2 hb2)
   have hR1 := Br HR1.out hb2
   have hR2 := Br HR2.out hb2
   have hR3 := Br HR3.out hb2
   have hX2 := (HX.out.keep HB1.out).keep hb2
   have hs2 := hb2.size
   obtain ⟨⟨x0, x1, x2, x3⟩, xf⟩ := row4 hR1
   obtain ⟨⟨t0, t1⟩, _⟩ := row2 hR2
   have xf0 := xf 0
   have xf1 := xf 1
   have HR1d : Hid ((put2 w2 w.heap.size (.int .i64 x.i) (.int .i64 x.t)).drew.heap[w.heap.size]? = some (.cells #[.int .i64 x.i, .int .i64 x.t, .int .i64 a.base, .slice ad a.l.length c] 39 (0, 0))) := heap_setCell_same _ w.heap.size 1 _ _ _ (heap_setCell_same w2 w.heap.size 0 _ _ _ hR1)
   have HR2d : Hid ((put2 w2 w.heap.size (.int .i64 x.i) (.int .i64 x.t)).drew.heap[w.heap.size + 2]? = some (.cells #[.int .i64 0, .int .i64 0, .int .i64 0, .slice none 0 0] 39 (0, 0))) := ((heap_setCell_other _ ⟨w.heap.size, 1, none⟩ _ _ (by simp)).trans (heap_setCell_other _ ⟨w.heap.size, 0, none⟩ _ _ (by simp))).trans hR3
   have hXd : XL vl (put2 w2 w.heap.size (.int .i64 x.i) (.int .i64 x.t)).drew ad c a.l := HX.out.keep (((Bu HB1.out hb2 Lr).setCell (p := ⟨w.heap.size, 0, none⟩) Lr _ |>.setCell (p := ⟨w.heap.size, 1, none⟩) Lr _).drew)
   have HV := Hf (rvotes_any ⟨x, a.base, a.l⟩ ad c k _ hXd hl)
   have HKT : Hid (∀ w7 : World, (w7.cell? ⟨w.heap.size, 0, none⟩ = some (.int .i64 x.i) ∧ w7.cell? ⟨w.heap.size, 1, none⟩ = some (.int .i64 x.t) ∧ w7.cell? ⟨w.heap.size, 2, none⟩ = some (.int .i64 a.base) ∧ w7.cell? ⟨w.heap.size, 3, none⟩ = some (.slice ad a.l.length c)) → ((put4 w7 (w.heap.size + 2) (.int .i64 x.i) (.int .i64 x.t) (.int .i64 a.base) (.slice ad a.l.length c)).cell? ⟨w.heap.size, 0, none⟩ = some (.int .i64 x.i) ∧ (put4 w7 (w.heap.size + 2) (.int .i64 x.i) (.int .i64 x.t) (.int .i64 a.base) (.slice ad a.l.length c)).cell? ⟨w.heap.size, 1, none⟩ = some (.int .i64 x.t) ∧ (put4 w7 (w.heap.size + 2) (.int .i64 x.i) (.int .i64 x.t) (.int .i64 a.base) (.slice ad a.l.length c)).cell? ⟨w.heap.size, 2, none⟩ = some (.int .i64 a.base) ∧ (put4 w7 (w.heap.size + 2) (.int .i64 x.i) (.int .i64 x.t) (.int .i64 a.base) (.slice ad a.l.length c)).cell? ⟨w.heap.size, 3, none⟩ = some (.slice ad a.l.length c))) := by
    intro w7 h7
    have kept : ∀ o, (put4 w7 (w.heap.size + 2) (.int .i64 x.i) (.int .i64 x.t) (.int .i64 a.base) (.slice ad a.l.length c)).cell? ⟨w.heap.size, o, none⟩ = w7.cell? ⟨w.heap.size, o, none⟩ := fun o => World.cell?_of_block (w := w7) (a := ⟨w.heap.size, o, none⟩) (put4_oth (g := w.heap.size + 2) (k := w.heap.size) (by omega) _ _ _ _)
    rw [kept, kept, kept, kept]
    exact h7
   obtain ⟨W3, HW3⟩ := Nh (put2 w2 w.heap.size (.int .i64 x.i) (.int .i64 x.t))
   have HW3' : Hid ((w2.setCell ⟨w.heap.size, 0, none⟩ (.int .i64 x.i)).setCell ⟨w.heap.size, 1, none⟩ (.int .i64 x.t) = W3) := HW3.out
   rw [HW3.out] at HQ' HR1d HR2d HV
   have HQ := HQ'
   clear hb2 hm hR1 hR2 hR3 hX2 hs2 xf hXd HW3 HQP HQ' HX HB1 HR1 HR2 HR3 z0 z1 z2 z3 u0 u1
   go_wp2_with fail
   rw [HW3'.out]; clear HW3' x0 x1 x2 x3 t0 t1 xf0 xf1
   refine wp_region_held_drew (S := fun wq => wq.cell? ⟨w.heap.size, 0, none⟩ = some (.int .i64 x.i) ∧ wq.cell? ⟨w.heap.size, 1, none⟩ = some (.int .i64 x.t) ∧ wq.cell? ⟨w.heap.size, 2, none⟩ = some (.int .i64 a.base) ∧ wq.cell? ⟨w.heap.size, 3, none⟩ = some (.slice ad a.l.length c)) (by kernel_rfl) (row4 HR1d.out).1 fun Hl => ?_
   refine Tk 0 ?pA ?vA ?yA Hl ?rA
   case yA => intro wq hq; obtain ⟨y0, y1, y2, y3⟩ := hq; go_simp; try with_reducible rfl
   refine Tk 1 ?pB ?vB ?yB Hl ?rB
   case yB => intro wq hq; obtain ⟨y0, y1, y2, y3⟩ := hq; go_simp; try with_reducible rfl
   refine Tm 2 ?pC ?vC Hl ?rC
   simp only [Act.put, Pa, Pb, Pc]
   refine Rd 3 ?pD ?sD
   intro K hK; go_simp
   refine HV.out.mono ?_; rintro e w4 ⟨v4, rfl, ho4, hb4⟩
   obtain ⟨a4, c4, rfl, hx4, hbk4⟩ := ho4.at
   have S4 := (row4 (Br HR1d.out hb4)).1
   have HR4 := Hf (Br HR2d.out hb4)
   have HQ4 := Hf (HQ.out w4 a4 c4 hb4 hx4 (fun j hj => ⟨(hbk4 j hj).1, (hbk4 j hj).2.2⟩))
   clear ho4 hx4 hbk4 hb4
   refine hK.out _ _ S4 fun Hl => ?_; clear hK K
   refine Rd 4 ?pE ?sE
   intro K hK; go_simp
   obtain ⟨⟨q0, q1, q2, q3⟩, qf⟩ := row4 HR4.out
   have qf0 := qf 0
   have qf1 := qf 1
   have qf2 := qf 2
   have qf3 := qf 3
   clear qf; go_simp
   refine hK.out _ _ (HKT.out _ Hl) fun Hl => ?_; clear hK K
   refine Tm 5 ?pF ?vF Hl ?rF
   refine Tm 6 ?pG ?vG Hl ?rG
   simp only [Act.put, Pa, Pb, Pc]
   refine wpAnyH_done (by kernel_rfl) ?_ _
   have HROW := Hf (put4_row HR4.out (.int .i64 x.i) (.int .i64 x.t) (.int .i64 a.base) (.slice ad a.l.length c))
   go_wp2
   refine bodyPost_ret (v := .tuple #[.agg #[.int .i64 x.i, .int .i64 x.t, .int .i64 a.base, .slice ad a.l.length c], .slice a4 (M.vts a.l k).length c4, .bool true]) ?_ rfl HQ4.out
   exact res31_3 f23_res _ _ (w.heap.size + 2) _ _ _ _ rfl HROW.out
  ·have HNO := Hf (HNOP.out (by rw [HP.out, hmx, decide_eq_false hk]; rfl))
   have d0 : decide (k < a.base) = true := decide_eq_true (by omega)
   clear HNOP HP hmx hk
   go_enter Tryz.func23, Tryz.ntmps23
   go_upto_region 1 with fail
   rw [HW1.out]
   go_wp2_with fail
   refine hm.mono ?_; rintro e w2 ⟨rfl, hb2⟩
   have hR1 := Br HR1.out hb2
   have hR3 := Br HR3.out hb2
   obtain ⟨⟨x0, x1, x2, x3⟩, _⟩ := row4 hR1
   obtain ⟨⟨q0, q1, q2, q3⟩, qf⟩ := row4 hR3
   have qf0 := qf 0
   have qf1 := qf 1
   have qf2 := qf 2
   have qf3 := qf 3
   have HROW := Hf (put4_row hR3 (.int .i64 a.p.i) (.int .i64 a.p.t) (.int .i64 a.base) (.slice ad a.l.length c))
   have HF := Hf (HNO.out _ (put4_bel (g := w.heap.size + 2) (Bu HB1.out hb2 Lr) (by omega) (.int .i64 a.p.i) (.int .i64 a.p.t) (.int .i64 a.base) (.slice ad a.l.length c)))
   clear hb2 hm hR1 hR3 qf HNO z0 z1 z2 z3 u0 u1; go_wp2
   refine bodyPost_ret (v := .tuple #[aV a ad c, .slice none 0 0, .bool false]) ?_ rfl HF.out
   exact res31_3 f23_res _ _ (w.heap.size + 2) _ _ _ _ rfl HROW.out
end Go.Proofs.YtlnedgjikkhplaaGreat.Na
