import Derived.Test.YtlnedgjikkhplaaGreatGP37
set_option maxRecDepth 100000
set_option maxHeartbeats 8000000
set_option linter.unusedVariables false
set_option linter.unusedSimpArgs false
namespace Go.Proofs.YtlnedgjikkhplaaGreat.Du
open Go.RowKit
open Na (Fr AS XL vl bV vV Hf bel1 bel2 Bu Br row2 row4 blk OwnL AtL)
open Na.M (E V S S0)
open Ns (Hd XD)
open Ns.M (DD RR ofL)
theorem results_cell_tmps3 {fn : Func} {p u u' u'' : Tmp} {ty : TypeId} (h : fn.results = #[.cell p ty, .tmp u, .tmp u', .tmp u'']) (tmps : Array Value) (P : Program) (w : World) :
  (results fn tmps).run P w = ((asAddr (tmps.getD p undef)).run P w).andThen fun a w₁ => ((loadVar ty a).run P w₁).andThen fun v w₂ => .ok (.tuple #[v, tmps.getD u undef, tmps.getD u' undef, tmps.getD u'' undef]) w₂ := by
 simp only [results, h]
 simp [Sem.run_bind, Result.andThen]
theorem res41_4 {fn : Func} {p u u' u'' : Tmp} (h : fn.results = #[.cell p 41, .tmp u, .tmp u', .tmp u'']) (tmps : Array Value) (w : World) (g : Nat) (H : Hx) (D : DD) (x : X) (hp : tmps.getD p undef = .pointer (some ⟨g, 0, none⟩)) (hg : w.heap[g]? = some (.cells (dvv H D x) 41 (0, 0))) :
  (results fn tmps).run Tryz.prog w = .ok (.tuple #[.agg (dvv H D x), tmps.getD u undef, tmps.getD u' undef, tmps.getD u'' undef]) w := by
 have hp' : tmps[p]?.getD undef = .pointer (some ⟨g, 0, none⟩) := by simpa using hp
 rw [results_cell_tmps3 h]
 simp [asAddr, hp', run_loadVar_row w g 41 41 (dvv H D x) (0, 0) _ hg Tryz.underlying41 rfl (size41 H D x)]
theorem DPo.of {w w' : World} {H H' : Hx} {D' : DD} {n : Nat} {x x' : X} {y : E} {k : Int} {P' : List Ns.M.Pl} {rs' : List R} {la : Option Addr} {lc : Nat} {L : List V} {q : Bool} {c : Int} (h : ppx n x y k = x' ∧ ppl n x y k = L ∧ ppb n x y k = q ∧ ppc n x y k = c) (xx : XX w' H' D' n P' x') (gd : Gd n P' x' rs') (nw : New w H H') (bel : Below w.heap.size w w') (xl : XL vl w' la lc L) (bk : ∀ j, Na.blk la j → w.heap.size ≤ j ∧ j < w'.heap.size) :
  DPo w H n x y k (.returned (.tuple #[.agg (dvv H' D' x'), .slice la L.length lc, .bool q, .int .i64 c])) w' := by
 obtain ⟨rfl, rfl, rfl, rfl⟩ := h
 exact ⟨H', D', P', rs', la, lc, rfl, xx, gd, nw, xl, bk, bel⟩
section
variable {n : Nat} {x : X} {y : E} {k : Int}
theorem o_cut (hc : x.cut = true) : ppx n x y k = x ∧ ppl n x y k = [] ∧ ppb n x y k = false ∧ ppc n x y k = 16 := by
 have hb : ppb n x y k = false := by unfold ppb; rw [hc]; rfl
 refine ⟨ppx_no hb, ?_, hb, ?_⟩
 ·unfold ppl; rw [hb]; rfl
 ·unfold ppc; rw [hc]; rfl
theorem o_no (hc : x.cut = false) (hp : Na.M.prb x.a y k = false) : ppx n x y k = x ∧ ppl n x y k = Na.M.prl x.a y k ∧ ppb n x y k = false ∧ ppc n x y k = 0 := by
 have hb : ppb n x y k = false := by unfold ppb; rw [hp]; simp
 refine ⟨ppx_no hb, ?_, hb, ?_⟩
 ·unfold ppl Na.M.prl; rw [hb, hp]
 ·unfold ppc; rw [hc, hp]; rfl
theorem o_same (hc : x.cut = false) (hp : Na.M.prb x.a y k = true) (he : eqE y x.a.p = true) : ppx n x y k = x ∧ ppl n x y k = Na.M.prl x.a y k ∧ ppb n x y k = true ∧ ppc n x y k = 0 := by
 have hb : ppb n x y k = true := by unfold ppb; rw [hc, hp, he]; rfl
 refine ⟨?_, ?_, hb, ?_⟩
 ·unfold ppx; rw [he, if_neg (by simp)]
 ·unfold ppl Na.M.prl; rw [hb, hp]
 ·unfold ppc; rw [hc, he, if_neg (by simp), if_neg (by simp)]
theorem o_fit (hc : x.cut = false) (hp : Na.M.prb x.a y k = true) (he : eqE y x.a.p = false) (hr : rm n x (.pr y) = true) : ppx n x y k = addX x (.pr y) ∧ ppl n x y k = Na.M.prl x.a y k ∧ ppb n x y k = true ∧ ppc n x y k = 0 := by
 have hb : ppb n x y k = true := by unfold ppb; rw [hc, hp, he, hr]; rfl
 refine ⟨?_, ?_, hb, ?_⟩
 ·unfold ppx; rw [if_pos ⟨hb, he⟩]
 ·unfold ppl Na.M.prl; rw [hb, hp]
 ·unfold ppc; rw [hc, hr, if_neg (by simp), if_neg (by simp)]
theorem o_full (hc : x.cut = false) (hp : Na.M.prb x.a y k = true) (he : eqE y x.a.p = false) (hr : rm n x (.pr y) = false) : ppx n x y k = x ∧ ppl n x y k = [] ∧ ppb n x y k = false ∧ ppc n x y k = 5 := by
 have hb : ppb n x y k = false := by unfold ppb; rw [hc, hp, he, hr]; rfl
 refine ⟨ppx_no hb, ?_, hb, ?_⟩
 ·unfold ppl; rw [hb]; rfl
 ·unfold ppc; rw [hc, hp, he, hr, if_neg (by simp), if_pos ⟨rfl, rfl, rfl⟩]
end
theorem f45_res : Tryz.f45.results = #[.cell 6 41, .tmp 7, .tmp 8, .tmp 9] := rfl
section
variable {w w' : World} {H : Hx} {D : DD} {n : Nat} {P : List Ns.M.Pl} {x : X} {rs : List R}
theorem dpr_any (hx : XX w H D n P x) (hg : Gd n P x rs) (y : E) (k : Int) : Calls Tryz.prog 45 #[.agg (dvv H D x), bV y, .int .i64 k] w (DPo w H n x y k) := by
 obtain ⟨Wa, hWa⟩ := Nq (w.alloc (.cells (dvv H D x) 41))
 have bWa : Below w.heap.size w Wa := by rw [← hWa]; exact bel1 _ _
 have sWa : Wa.heap.size = w.heap.size + 1 := by rw [← hWa]; simp
 have rWa : Wa.heap[w.heap.size]? = some (.cells (dvv H D x) 41 (0, 0)) := by rw [← hWa]; exact heap_alloc_last _ _
 obtain ⟨Wb, hWb⟩ := Nq (Wa.alloc (.cells #[.int .i64 y.i, .int .i64 y.t] 36))
 have bWb : Below Wa.heap.size Wa Wb := by rw [← hWb]; exact bel1 _ _
 have sWb : Wb.heap.size = w.heap.size + 2 := by rw [← hWb]; simp [sWa]
 have rWb : Wb.heap[w.heap.size + 1]? = some (.cells #[.int .i64 y.i, .int .i64 y.t] 36 (0, 0)) := by rw [← hWb, ← sWa]; exact heap_alloc_last _ _
 obtain ⟨W1, hW1⟩ := Nq (Wb.alloc (.cells Z13 41))
 have bW1 : Below Wb.heap.size Wb W1 := by rw [← hW1]; exact bel1 _ _
 have sW1 : W1.heap.size = w.heap.size + 3 := by rw [← hW1]; simp [sWb]
 have rW1 : W1.heap[w.heap.size + 2]? = some (.cells Z13 41 (0, 0)) := by rw [← hW1, ← sWb]; exact heap_alloc_last _ _
 have HW1 : Hid ((((w.alloc (.cells (dvv H D x) 41)).alloc (.cells #[.int .i64 y.i, .int .i64 y.t] 36)).alloc (.cells Z13 41)) = W1) := Hf (by rw [hWa, hWb, hW1])
 have hb1 : Below w.heap.size w W1 := Bu (Bu bWa bWb Lr) bW1 Lr
 have hr0 := Br (Br rWa bWb) bW1
 have hrA := Br rWb bW1
 have hrR := rW1
 clear hWa bWa rWa hWb bWb rWb hW1 bW1 rW1 sWa sWb
 have HOK := Hf hg.aok.1
 have HX := Hf hx
 have HG := Hf hg
 have HEP : Hid (x.ep ≤ 2147483647) := Hf hg.ep
 have HNN : Hid (x.n ≤ 2147483647) := Hf (by have := hg.nn; omega)
 have HRR := Hf hrR
 have HRET : Hid (∀ (W : World), Below W1.heap.size W1 W → ∀ (H' : Hx) (D' : DD) (x' : X), (st41 ⟨w.heap.size + 2, 0, none⟩ (dvv H' D' x')).run Tryz.prog W = .ok () (W.setRow (w.heap.size + 2) (dvv H' D' x')) ∧ (W.setRow (w.heap.size + 2) (dvv H' D' x')).heap[w.heap.size + 2]? = some (.cells (dvv H' D' x') 41 (0, 0)) ∧ Below w.heap.size w (W.setRow (w.heap.size + 2) (dvv H' D' x'))) := fun W hW H' D' x' => by
  have h1 := Br HRR.out hW
  exact ⟨store41_row rfl H' D' x' h1, setRow_heap _ _ _ _ _ _ h1, below_setRow (Bu hb1 hW Lr) (by omega) _⟩
 obtain ⟨⟨_, _, _, _, _, _, _, _, k8, k9, k10, k11, k12⟩, _⟩ := rowD hr0
 cases hct : x.cut with
 | true =>
  have HCT := Hf hct
  rw [hct] at k12
  have hR := HRET.out W1 (Below.refl _ _) H D x
  obtain ⟨hst, hrow, hbw⟩ := hR
  have HFIN : Hid (DPo w H n x y k (.returned (.tuple #[.agg (dvv H D x), .slice none 0 0, .bool false, .int .i64 16])) (W1.setRow (w.heap.size + 2) (dvv H D x))) := Hf (DPo.of (o_cut HCT.out) (HX.out.keep hbw) HG.out (New.refl _ _) hbw (XL.emp _) (fun j hj => (no_blk hj).elim))
  have HROW := Hf hrow
  have hld := load41_row hr0
  clear hrow hbw hx hg hb1 hr0 hrA hrR k8 k9 k10 k11 HRET
  go_enter Tryz.func45, Tryz.ntmps45
  go_upto_region 1 with fail
  rw [HW1.out]; clear HW1; go_wp2
  refine bodyPost_ret (v := .tuple #[.agg (dvv H D x), .slice none 0 0, .bool false, .int .i64 16]) ?_ rfl HFIN.out
  exact res41_4 f45_res _ _ (w.heap.size + 2) _ _ _ rfl HROW.out
 | false =>
  have HCT := Hf hct
  rw [hct] at k12
  have hc := (hx.keep hb1).promise HOK.out.len y k
  have HB1 := Hf hb1
  have HR0 := Hf hr0
  have HRA := Hf hrA
  obtain ⟨⟨q0, q1⟩, _⟩ := row2 hrA
  clear hct hx hg hb1 hr0 hrA hrR
  go_enter Tryz.func45, Tryz.ntmps45
  go_upto_region 1 with fail
  rw [HW1.out]; clear HW1
  go_wp2_with fail
  refine hc.mono ?_; rintro e w2 ⟨la, lc, rfl, hrn, hxl, hbk⟩
  obtain ⟨d2, hd2⟩ := Nq (Na.M.prs x.a y k)
  rw [hd2] at hrn ⊢
  have HD2 := Hf hd2
  obtain ⟨W3, HW3⟩ := Nh (w2.alloc (.cells #[.int .i64 d2.p.i, .int .i64 d2.p.t, .int .i64 d2.base, .slice H.ad d2.l.length H.c] 39))
  have hb3 : Below w2.heap.size w2 W3 := by rw [← HW3.out]; exact bel1 _ _
  have hr3 : W3.heap[w2.heap.size]? = some (.cells #[.int .i64 d2.p.i, .int .i64 d2.p.t, .int .i64 d2.base, .slice H.ad d2.l.length H.c] 39 (0, 0)) := by rw [← HW3.out]; exact heap_alloc_last _ _
  have hbA : Below W1.heap.size W1 W3 := Bu hrn.bel hb3 Lr
  have HRN := Hf (hrn.keep hb3)
  have HBa := Hf hbA
  have HB3 := Hf (Bu HB1.out hbA Lr)
  have hR03 := Br HR0.out hbA
  have hw2 := hrn.bel.size
  have HLST : Hid (∀ W, Below W3.heap.size W3 W → ∀ cs, XL vl (W.setRow (w.heap.size + 2) cs) la lc (Na.M.prl x.a y k) ∧ ∀ j, Na.blk la j → w.heap.size ≤ j ∧ j < (W.setRow (w.heap.size + 2) cs).heap.size) := fun W hW cs => by
   have hb := Bu hb3 hW Lr
   refine ⟨hxl.keepBut fun k hk hbl => ?_, fun j hj => ⟨by have := (hbk j hj).1; omega, ?_⟩⟩
   ·rw [setRow_other _ _ _ _ (fun e => by have := (hbk k hbl).1; omega)]
    exact hb.block k hk
   ·have : (W.setRow (w.heap.size + 2) cs).heap.size = W.heap.size := by simp [World.setRow]
    rw [this]
    exact Nat.lt_of_lt_of_le (hbk j hj).2 hb.size
  obtain ⟨b1, hb1e⟩ := Nq (w2.heap.size)
  rw [hb1e] at hr3
  obtain ⟨⟨t0, t1, t2, t3⟩, _⟩ := row4 hr3
  have HR3 := Hf hr3
  have HBE := Hf hb1e
  clear hc hd2 hb3 hr3 hbA hrn hb1e hxl hbk hw2 q0 q1 k8 k9 k10 k11 k12 HB1
  go_upto_region 4 with fail
  rw [HW3.out]
  try rw [HBE.out]
  clear HW3 HBE
  cases hok : Na.M.prb x.a y k with
  | false =>
   have HPB := Hf hok
   have hR := HRET.out W3 HBa.out H D x
   obtain ⟨hst, hrow, hbw⟩ := hR
   have HFIN : Hid (DPo w H n x y k (.returned (.tuple #[.agg (dvv H D x), .slice la (Na.M.prl x.a y k).length lc, .bool false, .int .i64 0])) (W3.setRow (w.heap.size + 2) (dvv H D x))) := Hf (DPo.of (o_no HCT.out HPB.out) (HX.out.keep hbw) HG.out (New.refl _ _) hbw (HLST.out W3 (Below.refl _ _) (dvv H D x)).1 (HLST.out W3 (Below.refl _ _) (dvv H D x)).2)
   have HROW := Hf hrow
   have hld := load41_row hR03
   clear hrow hbw hR03 hok; go_wp2
   refine bodyPost_ret (v := .tuple #[.agg (dvv H D x), .slice la (Na.M.prl x.a y k).length lc, .bool false, .int .i64 0]) ?_ rfl HFIN.out
   exact res41_4 f45_res _ _ (w.heap.size + 2) _ _ _ rfl HROW.out
  | true =>
   have HPB := Hf hok
   clear hok
   have hsm := dsame_any d2 x.a H.ad H.c H.ad H.c W3 (by have := (Na.M.prs_ok HOK.out y k).len; rw [HD2.out] at this; omega) (by have := HOK.out.len; omega) HRN.out.xl.at' (HX.out.keep HB3.out).xl.at'
   obtain ⟨⟨_, _, _, _, _, _, _, _, k8, k9, k10, k11, _⟩, _⟩ := rowD hR03
   have HR03 := Hf hR03
   clear hR03
   go_wp2_with fail
   refine hsm.mono ?_; rintro e w4 ⟨q, rfl, hq, hb4⟩
   have hq2 : (q = true ↔ eqE y x.a.p = true) := hq.trans (by rw [← HD2.out]; exact prs_iff HPB.out)
   have HB34 := Hf hb4
   have HBa4 := Hf (Bu HBa.out hb4 Lr)
   have HB4 := Hf (Bu HB3.out hb4 Lr)
   have hR04 := Br HR03.out hb4
   clear hsm hb4 hq k8 k9 k10 k11 t0 t1 t2 t3 HR03
   cases q with
   | true =>
    have HQT : Hid (eqE y x.a.p = true) := Hf (hq2.1 rfl)
    have hR := HRET.out w4 HBa4.out H D x
    obtain ⟨hst, hrow, hbw⟩ := hR
    have HFIN : Hid (DPo w H n x y k (.returned (.tuple #[.agg (dvv H D x), .slice la (Na.M.prl x.a y k).length lc, .bool true, .int .i64 0])) (w4.setRow (w.heap.size + 2) (dvv H D x))) := Hf (DPo.of (o_same HCT.out HPB.out HQT.out) (HX.out.keep hbw) HG.out (New.refl _ _) hbw (HLST.out w4 HB34.out (dvv H D x)).1 (HLST.out w4 HB34.out (dvv H D x)).2)
    have HROW := Hf hrow
    have hld := load41_row hR04
    clear hrow hbw hR04 hq2; go_wp2
    refine bodyPost_ret (v := .tuple #[.agg (dvv H D x), .slice la (Na.M.prl x.a y k).length lc, .bool true, .int .i64 0]) ?_ rfl HFIN.out
    exact res41_4 f45_res _ _ (w.heap.size + 2) _ _ _ rfl HROW.out
   | false =>
    have HEQ : Hid (eqE y x.a.p = false) := Hf (by cases he : eqE y x.a.p with | false => rfl | true => exact absurd (hq2.2 he) (by simp))
    have HWF : Hid (Wf (.pr y)) := Hf (vld_wf (may_vld (Na.M.prb_may HPB.out)))
    obtain ⟨P2, x2, e2, hQ, hAD⟩ := dadd_q HG.out (.pr y) HWF.out
    have HQ := Hf hQ
    have HAD := Hf hAD
    have HR04 := Hf hR04
    have HRA4 := Hf (Br HRA.out HBa4.out)
    have HS : Hid (∀ w', Below w4.heap.size w4 w' → (ld41 ⟨w.heap.size, 0, none⟩).run Tryz.prog w' = .ok (dvv H D x) w' ∧ w'.cell? ⟨w.heap.size + 1, 0, none⟩ = some (.int .i64 y.i) ∧ w'.cell? ⟨w.heap.size + 1, 1, none⟩ = some (.int .i64 y.t)) := fun w' hb => ⟨load41_row (Br HR04.out hb), (row2 (Br HRA4.out hb)).1⟩
    clear hQ hAD hq2 hR04
    go_upto_region 6 with fail
    go_cut [13, 14] from 38 to 44 (fun p e wx => ∃ bz H' D', p = ptr bz ∧ e = .int .i64 e2 ∧ wx.heap[bz]? = some (.cells (dvv H' D' x2) 41 (0, 0)) ∧ XX wx H' D' n P2 x2 ∧ w4.heap.size ≤ bz ∧ (∀ k, H'.blk k → H.blk k ∨ w4.heap.size ≤ k) ∧ ¬ H'.blk bz ∧ Below w4.heap.size w4 wx)
    case first =>
      refine wp_region_held_drew (S := fun wq => Below (w4).heap.size (w4) wq) (by kernel_rfl) (Below.drew (Below.refl _ _)) fun Hl => ?_
      obtain ⟨wdx, hwdx⟩ := Nq (w4.drew)
      have hBwd : Below w4.heap.size w4 wdx := by rw [← hwdx]; exact Below.drew (Below.refl _ _)
      rw [hwdx] at Hl ⊢; clear hwdx
      refine Tk 0 ?pA ?vA ?yA Hl ?rA
      case yA => intro q h; obtain ⟨zl, z0, z1⟩ := HS.out q h; go_simp; try with_reducible rfl
      refine Tk 1 ?pB ?vB ?yB Hl ?rB
      case yB => intro q h; obtain ⟨zl, z0, z1⟩ := HS.out q h; go_simp; try with_reducible rfl
      simp only [Act.put, Pa, Pb, Pc]
      refine Rn [2, 7] (Rc ?pC ?sC (Rc ?pD ?sD AllReadyH.nil))
      case sC =>
       intro K hK; go_simp
       refine (dpromise_any y _ HWF.out.1 HWF.out.2).mono ?_; rintro e v2 ⟨rfl, hb2⟩
       have B2 := Hl.trans (hb2.mono Hl.size)
       refine hK.out _ _ B2 fun Hl => ?_; clear hK K
       refine Rn [3, 7] (Rc ?pE ?sE (Rc ?pF ?sF AllReadyH.nil))
       case sE =>
        intro K hK; go_simp
        refine (HAD.out v2 H D (HX.out.keep (Bu HB4.out Hl Lr))).mono ?_; rintro e v3 ⟨H', D', rfl, hx3, hnw, hb3⟩
        have hnw4 : ∀ k, H'.blk k → H.blk k ∨ w4.heap.size ≤ k := fun k hk => (hnw k hk).imp id (fun h => Nat.le_trans Hl.size h)
        have B3 := Hl.trans (hb3.mono Hl.size)
        refine hK.out _ _ B3 fun Hl => ?_; clear hK K
        refine Tm 4 ?pG ?vG Hl ?rG
        refine Tm 5 ?pH ?vH Hl ?rH
        refine Tm 6 ?pI ?vI Hl ?rI
        simp only [Act.put, Pa, Pb, Pc]
        refine Rd 7 ?pJ ?sJ
        intro K hK; go_simp
        obtain ⟨wa23a, hwa⟩ := Nq (v3.alloc (.cells Z13 41))
        rw [hwa]
        have hba : Below v3.heap.size v3 wa23a := by rw [← hwa]; exact bel1 _ _
        have hz : wa23a.heap[v3.heap.size]? = some (.cells Z13 41 (0, 0)) := by rw [← hwa]; exact heap_alloc_last _ _
        obtain ⟨bz, hbz⟩ := Nq (v3.heap.size)
        rw [hbz] at hz ⊢
        have hbzW : w4.heap.size ≤ bz := by rw [← hbz]; exact Hl.size
        have hbzc : v3.heap.size ≤ bz := by rw [← hbz]; exact Nat.le_refl _
        clear hwa hbz
        have Ba23a := Hl.trans (hba.mono Hl.size)
        have hnz : ¬ H'.blk bz := fun e => by have := hx3.blt bz e; omega
        have hx3 := hx3.keep hba
        have hst := store41_row rfl H' D' x2 hz
        refine hK.out _ _ Ba23a fun Hl => ?_; clear hK K
        refine Rd 8 ?pK ?sK
        intro K hK; go_simp
        obtain ⟨ws237s, hws⟩ := Nq (wa23a.setRow bz (dvv H' D' x2))
        have hz2 := setRow_heap _ _ _ (dvv H' D' x2) _ _ hz
        have hBs := below_setRow Hl hbzW (dvv H' D' x2)
        have hx4 := hx3.keepBut (w' := wa23a.setRow bz (dvv H' D' x2)) (fun k _ hk => setRow_other _ _ _ _ (fun e => hnz (e ▸ hk))) (by simp [World.setRow])
        rw [hws] at hz2 hBs hx4 ⊢; clear hws
        refine hK.out _ _ hBs fun Hl => ?_; clear hK K
        refine Tm 9 ?pL ?vL Hl ?rL
        simp only [Act.put, Pa, Pb, Pc]
        refine wpAnyH_done (by kernel_rfl) ?_ _
        clear HS
        go_wp2_with fail
        go_meet
        case rel => exact ⟨bz, H', D', rfl, rfl, hz2, hx4, hbzW, hnw4, hnz, Hl⟩
       case sF =>
        intro K hK; go_simp
        obtain ⟨wa2a, hwa⟩ := Nq (v2.alloc (.cells Z13 41))
        rw [hwa]
        have hba : Below v2.heap.size v2 wa2a := by rw [← hwa]; exact bel1 _ _
        have hz : wa2a.heap[v2.heap.size]? = some (.cells Z13 41 (0, 0)) := by rw [← hwa]; exact heap_alloc_last _ _
        obtain ⟨bz, hbz⟩ := Nq (v2.heap.size)
        rw [hbz] at hz ⊢
        have hbzW : w4.heap.size ≤ bz := by rw [← hbz]; exact Hl.size
        have hbzc : v2.heap.size ≤ bz := by rw [← hbz]; exact Nat.le_refl _
        clear hwa hbz
        have Ba2a := Hl.trans (hba.mono Hl.size)
        refine hK.out _ _ Ba2a fun Hl => ?_; clear hK K
        refine Rd 3 ?pM ?sM
        intro K hK; go_simp
        refine (HAD.out wa2a H D (HX.out.keep (Bu HB4.out Hl Lr))).mono ?_; rintro e v3 ⟨H', D', rfl, hx3, hnw, hb3⟩
        have hnw4 : ∀ k, H'.blk k → H.blk k ∨ w4.heap.size ≤ k := fun k hk => (hnw k hk).imp id (fun h => Nat.le_trans Hl.size h)
        have B3 := Hl.trans (hb3.mono Hl.size)
        have hnz : ¬ H'.blk bz := fun e => by
         rcases hnw bz e with e | e
         ·have := HX.out.blt bz e; have := HB4.out.size; omega
         ·have := (Array.getElem?_eq_some_iff.1 hz).1; omega
        have hz := Br hz hb3
        have hst := store41_row rfl H' D' x2 hz
        refine hK.out _ _ B3 fun Hl => ?_; clear hK K
        refine Tm 4 ?pN ?vN Hl ?rN
        refine Tm 5 ?pO ?vO Hl ?rO
        refine Tm 6 ?pP ?vP Hl ?rP
        simp only [Act.put, Pa, Pb, Pc]
        refine Rd 8 ?pQ ?sQ
        intro K hK; go_simp
        obtain ⟨ws273s, hws⟩ := Nq (v3.setRow bz (dvv H' D' x2))
        have hz2 := setRow_heap _ _ _ (dvv H' D' x2) _ _ hz
        have hBs := below_setRow Hl hbzW (dvv H' D' x2)
        have hx4 := hx3.keepBut (w' := v3.setRow bz (dvv H' D' x2)) (fun k _ hk => setRow_other _ _ _ _ (fun e => hnz (e ▸ hk))) (by simp [World.setRow])
        rw [hws] at hz2 hBs hx4 ⊢; clear hws
        refine hK.out _ _ hBs fun Hl => ?_; clear hK K
        refine Tm 9 ?pR ?vR Hl ?rR
        simp only [Act.put, Pa, Pb, Pc]
        refine wpAnyH_done (by kernel_rfl) ?_ _
        clear HS
        go_wp2_with fail
        go_meet
        case rel => exact ⟨bz, H', D', rfl, rfl, hz2, hx4, hbzW, hnw4, hnz, Hl⟩
      case sD =>
       intro K hK; go_simp
       obtain ⟨waa, hwa⟩ := Nq (wdx.alloc (.cells Z13 41))
       rw [hwa]
       have hba : Below wdx.heap.size wdx waa := by rw [← hwa]; exact bel1 _ _
       have hz : waa.heap[wdx.heap.size]? = some (.cells Z13 41 (0, 0)) := by rw [← hwa]; exact heap_alloc_last _ _
       obtain ⟨bz, hbz⟩ := Nq (wdx.heap.size)
       rw [hbz] at hz ⊢
       have hbzW : w4.heap.size ≤ bz := by rw [← hbz]; exact Hl.size
       have hbzc : wdx.heap.size ≤ bz := by rw [← hbz]; exact Nat.le_refl _
       clear hwa hbz
       have Baa := Hl.trans (hba.mono Hl.size)
       refine hK.out _ _ Baa fun Hl => ?_; clear hK K
       refine Rd 2 ?pS ?sS
       intro K hK; go_simp
       refine (dpromise_any y _ HWF.out.1 HWF.out.2).mono ?_; rintro e v2 ⟨rfl, hb2⟩
       have B2 := Hl.trans (hb2.mono Hl.size)
       have hz := Br hz hb2
       refine hK.out _ _ B2 fun Hl => ?_; clear hK K
       refine Rd 3 ?pT ?sT
       intro K hK; go_simp
       refine (HAD.out v2 H D (HX.out.keep (Bu HB4.out Hl Lr))).mono ?_; rintro e v3 ⟨H', D', rfl, hx3, hnw, hb3⟩
       have hnw4 : ∀ k, H'.blk k → H.blk k ∨ w4.heap.size ≤ k := fun k hk => (hnw k hk).imp id (fun h => Nat.le_trans Hl.size h)
       have B3 := Hl.trans (hb3.mono Hl.size)
       have hnz : ¬ H'.blk bz := fun e => by
        rcases hnw bz e with e | e
        ·have := HX.out.blt bz e; have := HB4.out.size; omega
        ·have := (Array.getElem?_eq_some_iff.1 hz).1; omega
       have hz := Br hz hb3
       have hst := store41_row rfl H' D' x2 hz
       refine hK.out _ _ B3 fun Hl => ?_; clear hK K
       refine Tm 4 ?pU ?vU Hl ?rU
       refine Tm 5 ?pV ?vV Hl ?rV
       refine Tm 6 ?pW ?vW Hl ?rW
       simp only [Act.put, Pa, Pb, Pc]
       refine Rd 8 ?pX ?sX
       intro K hK; go_simp
       obtain ⟨ws723s, hws⟩ := Nq (v3.setRow bz (dvv H' D' x2))
       have hz2 := setRow_heap _ _ _ (dvv H' D' x2) _ _ hz
       have hBs := below_setRow Hl hbzW (dvv H' D' x2)
       have hx4 := hx3.keepBut (w' := v3.setRow bz (dvv H' D' x2)) (fun k _ hk => setRow_other _ _ _ _ (fun e => hnz (e ▸ hk))) (by simp [World.setRow])
       rw [hws] at hz2 hBs hx4 ⊢; clear hws
       refine hK.out _ _ hBs fun Hl => ?_; clear hK K
       refine Tm 9 ?pY ?vY Hl ?rY
       simp only [Act.put, Pa, Pb, Pc]
       refine wpAnyH_done (by kernel_rfl) ?_ _
       clear HS
       go_wp2_with fail
       go_meet
       case rel => exact ⟨bz, H', D', rfl, rfl, hz2, hx4, hbzW, hnw4, hnz, Hl⟩
    case rest =>
     clear HAD HS
     obtain ⟨bz, H', D', rfl, rfl, hz, hx4, hbz, hnw, hnz, hbc⟩ := hcut
     have hbc3 : Below W3.heap.size W3 wc := Bu HB34.out hbc Lr
     have hbc1 : Below W1.heap.size W1 wc := Bu HBa4.out hbc Lr
     have hs3 := HB34.out.size
     have hs13 := HBa.out.size
     obtain ⟨⟨r0, r1, r2, r3⟩, _⟩ := row4 (Br HR3.out hbc3)
     rcases HQ.out with ⟨hrm, rfl, rfl, rfl⟩ | ⟨hrm, hP2, hx2, rfl⟩
     ·have hxn : ({ addY x (.pr y) with a := d2 } : X) = addX x (.pr y) := by rw [← HD2.out]; exact add_pr HPB.out
      obtain ⟨⟨_, _, _, _, _, _, _, _, m8, m9, m10, m11, _⟩, mf⟩ := rowD hz
      have mf8 := mf 8
      have mf9 := mf 9
      have mf10 := mf 10
      have mf11 := mf 11
      obtain ⟨W6, hW6⟩ := Nq (st8 wc bz (.int .i64 d2.p.i) (.int .i64 d2.p.t) (.int .i64 d2.base) (.slice H.ad d2.l.length H.c))
      obtain ⟨hz6, hO6, hs6⟩ := put8 d2 H.ad H.c hz
      have hb6 := below8 (v0 := .int .i64 d2.p.i) (v1 := .int .i64 d2.p.t) (v2 := .int .i64 d2.base) (v3 := .slice H.ad d2.l.length H.c) hbc3 (show W3.heap.size ≤ bz by omega)
      have hb61 := below8 (v0 := .int .i64 d2.p.i) (v1 := .int .i64 d2.p.t) (v2 := .int .i64 d2.base) (v3 := .slice H.ad d2.l.length H.c) hbc1 (show W1.heap.size ≤ bz by omega)
      rw [hW6] at hz6 hO6 hs6 hb6 hb61; rw [hxn] at hz6
      have hld6 := load41_row hz6
      obtain ⟨hst, hrow, hbw⟩ := HRET.out W6 hb61 ⟨H'.h, H.ad, H.c⟩ D' (addX x (.pr y))
      have hX7 : XX (W6.setRow (w.heap.size + 2) (dvv ⟨H'.h, H.ad, H.c⟩ D' (addX x (.pr y)))) ⟨H'.h, H.ad, H.c⟩ D' n (addP n P x (.pr y)) (addX x (.pr y)) := by
       have hsz : (W6.setRow (w.heap.size + 2) (dvv ⟨H'.h, H.ad, H.c⟩ D' (addX x (.pr y)))).heap.size = W6.heap.size := by simp [World.setRow]
       refine ⟨hx4.xd.keepBut (fun k _ hk => ?_) (by rw [hsz, hs6]; exact Nat.le_refl _), hx4.rr, ?_, fun k hk => ?_⟩
       ·have hk1 : k ≠ bz := fun e => hnz (e ▸ .inl hk)
        have hk2 : k ≠ w.heap.size + 2 := fun e => by
         rcases hnw k (.inl hk) with h1 | h1
         ·have := HX.out.blt k h1; omega
         ·omega
        rw [setRow_other _ _ _ _ hk2]
        exact hO6 k hk1
       ·rw [← hxn]
        refine HRN.out.xl.keepBut (fun k hk hb => ?_)
        have hk2 : k ≠ w.heap.size + 2 := fun e => by
         rcases HRN.out.nw k hb with h1 | h1
         ·have := HX.out.lt k h1; omega
         ·omega
        rw [setRow_other _ _ _ _ hk2]
        exact hb6.block k hk
       ·rw [hsz]
        exact Nat.lt_of_lt_of_le (HRN.out.lt k hk) hb6.size
      have hGD : Gd n (addP n P x (.pr y)) (addX x (.pr y)) (rs ++ [(.pr y)]) := (HG.out.add (.pr y) HWF.out (of_decide_eq_true hrm))
      have hNW : New w H ⟨H'.h, H.ad, H.c⟩ := fun k hk => by
       rcases hk with hk | hk
       ·rcases hnw k (.inl hk) with h1 | h1
        ·exact .inl h1
        ·exact .inr (by omega)
       ·rcases HRN.out.nw k hk with h1 | h1
        ·exact .inl (.inr h1)
        ·exact .inr (by omega)
      have HFIN : Hid (DPo w H n x y k (.returned (.tuple #[.agg (dvv ⟨H'.h, H.ad, H.c⟩ D' (addX x (.pr y))), .slice la (Na.M.prl x.a y k).length lc, .bool true, .int .i64 0])) (W6.setRow (w.heap.size + 2) (dvv ⟨H'.h, H.ad, H.c⟩ D' (addX x (.pr y))))) := Hf (DPo.of (o_fit HCT.out HPB.out HEQ.out hrm) hX7 hGD hNW hbw (HLST.out W6 hb6 (dvv ⟨H'.h, H.ad, H.c⟩ D' (addX x (.pr y)))).1 (HLST.out W6 hb6 (dvv ⟨H'.h, H.ad, H.c⟩ D' (addX x (.pr y)))).2)
      have HROW := Hf hrow
      unfold st8 at hW6
      have HW6 := Hf hW6
      clear hrow hbw hX7 hNW hGD hW6 hz6 hO6 hs6 hb6 hb61 hz hx4 mf hxn HQ
      go_upto_region 10 with fail
      rw [HW6.out]; clear HW6 m8 m9 m10 m11 mf8 mf9 mf10 mf11; go_wp2
      refine bodyPost_ret (v := .tuple #[.agg (dvv ⟨H'.h, H.ad, H.c⟩ D' (addX x (.pr y))), .slice la (Na.M.prl x.a y k).length lc, .bool true, .int .i64 0]) ?_ rfl HFIN.out
      exact res41_4 f45_res _ _ (w.heap.size + 2) _ _ _ rfl HROW.out
     ·subst P2
      subst x2
      have hld := load41_row hz
      obtain ⟨hst, hrow, hbw⟩ := HRET.out wc hbc1 H' D' x
      have hX7 : XX (wc.setRow (w.heap.size + 2) (dvv H' D' x)) H' D' n P x := hx4.keepBut (fun k _ hk => setRow_other _ _ _ _ (fun e => by
       rcases hnw k hk with h1 | h1
       ·have := HX.out.blt k h1; omega
       ·omega)) (by simp [World.setRow])
      have hNW : New w H H' := fun k hk => by
       rcases hnw k hk with h1 | h1
       ·exact .inl h1
       ·exact .inr (by omega)
      have HFIN : Hid (DPo w H n x y k (.returned (.tuple #[.agg (dvv H' D' x), .slice none 0 0, .bool false, .int .i64 5])) (wc.setRow (w.heap.size + 2) (dvv H' D' x))) := Hf (DPo.of (o_full HCT.out HPB.out HEQ.out hrm) hX7 HG.out hNW hbw (XL.emp _) (fun j hj => (no_blk hj).elim))
      have HROW := Hf hrow
      clear hrow hbw hX7 hNW hz hx4 HQ; go_wp2
      refine bodyPost_ret (v := .tuple #[.agg (dvv H' D' x), .slice none 0 0, .bool false, .int .i64 5]) ?_ rfl HFIN.out
      exact res41_4 f45_res _ _ (w.heap.size + 2) _ _ _ rfl HROW.out
end
end Go.Proofs.YtlnedgjikkhplaaGreat.Du
