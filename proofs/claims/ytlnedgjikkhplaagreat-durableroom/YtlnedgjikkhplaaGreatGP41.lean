import Derived.Test.YtlnedgjikkhplaaGreatGP40
set_option maxRecDepth 100000
set_option maxHeartbeats 8000000
set_option linter.unusedVariables false
set_option linter.unusedSimpArgs false
namespace Go.Proofs.YtlnedgjikkhplaaGreat.Du
open Go.RowKit
open Na (Fr AS XL vl bV vV Hf bel1 bel2 Bu Br row2 row4 blk OwnL AtL)
open Na.M (E V S S0)
open Ns (Hd XD)
open Ns.M (DD RR ofL)
theorem f80_res : Tryz.f80.results = #[.cell 4 34, .tmp 5] := rfl
theorem dswrite_any {w : World} {h : Hd} {D : DD} {n : Nat} {P : List Ns.M.Pl} (hx : XD w h D) (rr : RR n P false D) (hl : P.length = n) (hok : Ns.M.Ok P) (h8 : 8 ≤ n) (body : ByteArray) (hb : body.size ≤ 244) (hg : (Ns.rdP (P.take 8)).1 < 2147483647) :
  Calls Tryz.prog 80 #[.agg (h.vals D), .string body] w fun e w' => ∃ h' D', e = .returned (.tuple #[.agg (h'.vals D'), .int .i64 0]) ∧ XD w' h' D' ∧ RR n (Ns.nxN P body.data.toList) false D' ∧ (∀ k, h'.blk k → h.blk k ∨ w.heap.size ≤ k) ∧ Below w.heap.size w w' := by
 obtain ⟨W1, hW1, hs1, hB1, hr0, hr1⟩ := Ns.box2 w (.slice h.aN D.now.length h.cN) (.slice h.aS D.sure.length h.cS) (.slice h.aL D.loo.length h.cL) (.bool D.lost)
 have HW1 := Hf hW1
 have hrd := dsread_any (hx.keep hB1) rr hl hok h8
 have HN : Hid (Ns.nxN P body.data.toList = Ns.M.flush (Ns.M.wr P (((Ns.rdP (P.take 8)).1 + 1) % 2 * 4) (ofL (Ns.Sp.pk body.data.toList ((Ns.rdP (P.take 8)).1 + 1))) 4)) := rfl
 have hw := Ns.write_code n ((Ns.rdP (P.take 8)).1 + 1) h8 body P hb
 have c1 := fun W => Ns.refPack_any body (((Ns.rdP (P.take 8)).1 + 1 : Nat) : Int) W (by unfold maxLen; omega)
 have ep : Ns.pcode body (((Ns.rdP (P.take 8)).1 + 1 : Nat) : Int) = 0 ∧ Ns.ptext body (((Ns.rdP (P.take 8)).1 + 1 : Nat) : Int) = ofL (Ns.Sp.pk body.data.toList ((Ns.rdP (P.take 8)).1 + 1)) := by
  rcases Ns.pcode_cases body (((Ns.rdP (P.take 8)).1 + 1 : Nat) : Int) with ⟨h1, e1, e2⟩ | ⟨h1, h2, e1, e2⟩ | ⟨h1, h2, e1, e2⟩
  ·omega
  ·omega
  ·exact ⟨e1, e2⟩
 rw [ep.1, ep.2] at c1
 have hrc : (Ns.rdP (P.take 8)).1 = 0 ∧ Ns.rcode (Ns.rdP (P.take 8)) = 7 ∨ ¬ (Ns.rdP (P.take 8)).1 = 0 ∧ Ns.rcode (Ns.rdP (P.take 8)) = 0 := by
  unfold Ns.rcode
  by_cases h0 : (Ns.rdP (P.take 8)).1 = 0
  ·left; exact ⟨h0, by rw [decide_eq_true h0]; rfl⟩
  ·right; exact ⟨h0, by rw [decide_eq_false h0]; rfl⟩
 obtain ⟨hz, hc, he⟩ := hw
 have HRR := Hf rr
 have HX := Hf hx
 have HWR := Hf (rr.write ((((Ns.rdP (P.take 8)).1 + 1) % 2 * 4 : Nat) : Int) (ofL (Ns.Sp.pk body.data.toList ((Ns.rdP (P.take 8)).1 + 1))))
 rw [he] at HWR
 have HCD := Hf (rr.code ((((Ns.rdP (P.take 8)).1 + 1) % 2 * 4 : Nat) : Int) (ofL (Ns.Sp.pk body.data.toList ((Ns.rdP (P.take 8)).1 + 1))))
 rw [hc] at HCD; clear ep rr hx hc he hl hok hW1; unfold Ns.Hd.vals at hrd ⊢
 generalize ofL (Ns.Sp.pk body.data.toList ((Ns.rdP (P.take 8)).1 + 1)) = T at *
 generalize ofL (Ns.rdP (P.take 8)).2 = B at *
 generalize Ns.rcode (Ns.rdP (P.take 8)) = rc at *
 generalize (Ns.rdP (P.take 8)).1 = g at *
 obtain ⟨D2, hD2⟩ := Nq (Ns.M.dwrote D (((g + 1) % 2 * 4 : Nat) : Int) T)
 rw [hD2] at HWR
 have HD2 := Hf hD2
 have HWC : Hid (Ns.wrV (Ns.M.wcode D.now.length D.lost (((g + 1) % 2 * 4 : Nat) : Int) T) = Ns.wrV 0) := Hf (by rw [HCD.out])
 have HSZ : Hid (T.size ≤ 131072) := Hf (by omega)
 have HG1 : Hid (g + 1 < 4294967296) := Hf (by omega)
 have HR0 := Hf hr0
 have HR1 := Hf hr1
 have HB1 := Hf hB1
 obtain ⟨⟨x0, x1, x2, x3⟩, _⟩ := row4 hr0
 rw [show ((g + 1 : Nat) : Int) = (g : Int) + 1 by omega] at c1
 have hcg : (((g + 1 : Nat)) : Int) = (g : Int) + 1 := by omega
 have HWG : Hid (IntKind.i64.wrap ((g : Int) + 1) = ((g + 1 : Nat) : Int)) := Hf (by rw [IntKind.wrap_i64]; omega)
 have HPL : Hid ((((g : Int) + 1) % 2 * 4) = (((g + 1) % 2 * 4 : Nat) : Int)) := Hf (by omega)
 have d3 : decide ((244 : Int) < (body.size : Int)) = false := decide_eq_false (by omega)
 have d5 : decide ((2147483648 : Int) ≤ (g : Int) + 1) = false := decide_eq_false (by omega)
 clear hD2 HCD hr0 hr1 hB1 hcg
 go_enter Tryz.func80, Tryz.ntmps80
 go_upto_region 1 with fail
 rw [HW1.out]
 go_wp2_with fail
 refine hrd.mono ?_; rintro e w2 ⟨rfl, hb2⟩
 have HB2 := Hf hb2
 have HRC := Hf hrc
 clear hrd hb2 x0 x1 x2 x3 hrc
 go_upto_region 4 with fail
 go_cut [27] from 22 to 27 (fun s wx => s = .bool false ∧ wx = w2)
 case first =>
  rcases HRC.out with ⟨-, h7⟩ | ⟨-, h7⟩
  ·subst h7
   go_wp2_with fail
   go_meet
   case rel => exact ⟨rfl, rfl⟩
  ·subst h7
   go_wp2_with fail
   go_meet
   case rel => exact ⟨rfl, rfl⟩
 case rest =>
  obtain ⟨rfl, hwc⟩ := hcut
  rw [hwc]; clear hwc
  go_wp2_with fail
  refine (c1 _).mono ?_; rintro e w3 ⟨rfl, hb3⟩
  have HB13 := Hf (Bu HB2.out hb3 Lr)
  have HBW := Hf (Bu HB1.out HB13.out Lr)
  have HS : Hid (∀ w', Below w3.heap.size w3 w' → w'.cell? ⟨w.heap.size, 0, none⟩ = some (.slice h.aN D.now.length h.cN) ∧ w'.cell? ⟨w.heap.size, 1, none⟩ = some (.slice h.aS D.sure.length h.cS) ∧ w'.cell? ⟨w.heap.size, 2, none⟩ = some (.slice h.aL D.loo.length h.cL) ∧ w'.cell? ⟨w.heap.size, 3, none⟩ = some (.bool D.lost)) := fun w' hb => (row4 (Br HR0.out (Bu HB13.out hb Lr))).1
  clear c1 hb3 HB2
  go_upto_region 9 with fail
  go_cut [11, 8] from 41 to 49 (fun p e wx => ∃ bz h', p = ptr bz ∧ e = .int .i64 0 ∧ wx.heap[bz]? = some (.cells (h'.vals D2) 34 (0, 0)) ∧ XD wx h' D2 ∧ w3.heap.size ≤ bz ∧ (∀ k, h'.blk k → h.blk k ∨ w3.heap.size ≤ k) ∧ Below w3.heap.size w3 wx)
  case first =>
   refine wp_region_held_drew (S := fun wq => Below (w3).heap.size (w3) wq) (by kernel_rfl) (Below.drew (Below.refl _ _)) fun Hl => ?_
   obtain ⟨wdx, hwdx⟩ := Nq (w3.drew)
   have hBwd : Below w3.heap.size w3 wdx := by rw [← hwdx]; exact Below.drew (Below.refl _ _)
   rw [hwdx] at Hl ⊢; clear hwdx
   refine Tk 0 ?pA ?vA ?yA Hl ?rA
   case yA => intro q h; obtain ⟨z0, z1, z2, z3⟩ := HS.out q h; go_simp; try with_reducible rfl
   refine Tm 1 ?pB ?vB Hl ?rB
   refine Tm 2 ?pC ?vC Hl ?rC
   refine Tm 4 ?pD ?vD Hl ?rD
   simp only [Act.put, Pa, Pb, Pc]
   refine Rn [3, 9] (Rc ?pE ?sE (Rc ?pF ?sF AllReadyH.nil))
   case sE =>
    intro K hK; go_simp; rw [HWG.out]
    refine (Ns.refPlace_any (g + 1) HG1.out _).mono ?_; rintro e v3 ⟨rfl, hv3⟩
    obtain rfl := hv3.symm
    clear hv3
    refine hK.out _ _ Hl fun Hl => ?_; clear hK K
    refine Rn [5, 9] (Rc ?pG ?sG (Rc ?pH ?sH AllReadyH.nil))
    case sG =>
     intro K hK; go_simp; rw [HPL.out]
     refine (Ns.rwrite_any h D n _ _ wdx HRR.out.ok HSZ.out (HX.out.keep (Bu HBW.out Hl Lr))).mono ?_; rintro e v5 ⟨h', rfl, hxd, hnw, hb5⟩
     have hnw3 : ∀ k, h'.blk k → h.blk k ∨ w3.heap.size ≤ k := fun k hk => (hnw k hk).imp id (fun h => Nat.le_trans Hl.size h)
     rw [HWC.out]; rw [HD2.out] at hxd ⊢
     simp only [Ns.wrV, Ns.Hd.vals]
     have B5 := Hl.trans (hb5.mono Hl.size)
     refine hK.out _ _ B5 fun Hl => ?_; clear hK K
     refine Tm 6 ?pI ?vI Hl ?rI
     refine Tm 7 ?pJ ?vJ Hl ?rJ
     refine Tm 8 ?pK ?vK Hl ?rK
     simp only [Act.put, Pa, Pb, Pc]
     refine Rd 9 ?pL ?sL
     intro K hK; go_simp
     obtain ⟨wa35a, hwa⟩ := Nq (v5.alloc (.cells #[.slice none 0 0, .slice none 0 0, .slice none 0 0, .bool false] 34))
     rw [hwa]
     have hba : Below v5.heap.size v5 wa35a := by rw [← hwa]; exact bel1 _ _
     have hz : wa35a.heap[v5.heap.size]? = some (.cells #[.slice none 0 0, .slice none 0 0, .slice none 0 0, .bool false] 34 (0, 0)) := by rw [← hwa]; exact heap_alloc_last _ _
     obtain ⟨bz, hbz⟩ := Nq (v5.heap.size)
     rw [hbz] at hz ⊢
     have hbzW : w3.heap.size ≤ bz := by rw [← hbz]; exact Hl.size
     have hbzc : v5.heap.size ≤ bz := by rw [← hbz]; exact Nat.le_refl _
     clear hwa hbz
     have Ba35a := Hl.trans (hba.mono Hl.size)
     have hnz : ¬ h'.blk bz := fun e => by have := hxd.lt bz e; omega
     have hxd := hxd.keep hba
     obtain ⟨⟨k0, k1, k2, k3⟩, kf⟩ := row4 hz
     have kf0 := kf 0
     have kf1 := kf 1
     have kf2 := kf 2
     have kf3 := kf 3
     refine hK.out _ _ Ba35a fun Hl => ?_; clear hK K
     refine Rd 10 ?pM ?sM
     intro K hK; go_simp
     obtain ⟨ws359s, hws⟩ := Nq (Ns.st4 wa35a bz (.slice h'.aN D2.now.length h'.cN) (.slice h'.aS D2.sure.length h'.cS) (.slice h'.aL D2.loo.length h'.cL) (.bool D2.lost))
     obtain ⟨hz2, hzo, hzs⟩ := Ns.put4 (v0 := .slice h'.aN D2.now.length h'.cN) (v1 := .slice h'.aS D2.sure.length h'.cS) (v2 := .slice h'.aL D2.loo.length h'.cL) (v3 := .bool D2.lost) hz
     have hBs := Ns.below4 (v0 := .slice h'.aN D2.now.length h'.cN) (v1 := .slice h'.aS D2.sure.length h'.cS) (v2 := .slice h'.aL D2.loo.length h'.cL) (v3 := .bool D2.lost) Hl hbzW
     rw [hws] at hz2 hzo hzs hBs
     have hxd2 := hxd.keepBut (fun k _ hk => hzo k (fun e => hnz (e ▸ hk))) (by rw [hzs]; exact Nat.le_refl _)
     unfold Ns.st4 at hws; rw [hws]; clear hws
     refine hK.out _ _ hBs fun Hl => ?_; clear hK K
     refine Tm 11 ?pN ?vN Hl ?rN
     simp only [Act.put, Pa, Pb, Pc]
     refine wpAnyH_done (by kernel_rfl) ?_ _
     clear HS
     go_wp2_with fail
     go_meet
     case rel => exact ⟨bz, h', rfl, rfl, hz2, hxd2, hbzW, hnw3, Hl⟩
    case sH =>
     intro K hK; go_simp
     obtain ⟨wa3a, hwa⟩ := Nq (wdx.alloc (.cells #[.slice none 0 0, .slice none 0 0, .slice none 0 0, .bool false] 34))
     rw [hwa]
     have hba : Below wdx.heap.size wdx wa3a := by rw [← hwa]; exact bel1 _ _
     have hz : wa3a.heap[wdx.heap.size]? = some (.cells #[.slice none 0 0, .slice none 0 0, .slice none 0 0, .bool false] 34 (0, 0)) := by rw [← hwa]; exact heap_alloc_last _ _
     obtain ⟨bz, hbz⟩ := Nq (wdx.heap.size)
     rw [hbz] at hz ⊢
     have hbzW : w3.heap.size ≤ bz := by rw [← hbz]; exact Hl.size
     have hbzc : wdx.heap.size ≤ bz := by rw [← hbz]; exact Nat.le_refl _
     clear hwa hbz
     have Ba3a := Hl.trans (hba.mono Hl.size)
     refine hK.out _ _ Ba3a fun Hl => ?_; clear hK K
     refine Rd 5 ?pO ?sO
     intro K hK; go_simp; rw [HPL.out]
     refine (Ns.rwrite_any h D n _ _ wa3a HRR.out.ok HSZ.out (HX.out.keep (Bu HBW.out Hl Lr))).mono ?_; rintro e v5 ⟨h', rfl, hxd, hnw, hb5⟩
     have hnw3 : ∀ k, h'.blk k → h.blk k ∨ w3.heap.size ≤ k := fun k hk => (hnw k hk).imp id (fun h => Nat.le_trans Hl.size h)
     rw [HWC.out]; rw [HD2.out] at hxd ⊢
     simp only [Ns.wrV, Ns.Hd.vals]
     have B5 := Hl.trans (hb5.mono Hl.size)
     have hnz : ¬ h'.blk bz := fun e => by
      rcases hnw bz e with e | e
      ·have := (HX.out.lt bz e); have := HBW.out.size; omega
      ·have := (Array.getElem?_eq_some_iff.1 hz).1; omega
     have hz := Br hz hb5
     obtain ⟨⟨k0, k1, k2, k3⟩, kf⟩ := row4 hz
     have kf0 := kf 0
     have kf1 := kf 1
     have kf2 := kf 2
     have kf3 := kf 3
     refine hK.out _ _ B5 fun Hl => ?_; clear hK K
     refine Tm 6 ?pP ?vP Hl ?rP
     refine Tm 7 ?pQ ?vQ Hl ?rQ
     refine Tm 8 ?pR ?vR Hl ?rR
     simp only [Act.put, Pa, Pb, Pc]
     refine Rd 10 ?pS ?sS
     intro K hK; go_simp
     obtain ⟨ws395s, hws⟩ := Nq (Ns.st4 v5 bz (.slice h'.aN D2.now.length h'.cN) (.slice h'.aS D2.sure.length h'.cS) (.slice h'.aL D2.loo.length h'.cL) (.bool D2.lost))
     obtain ⟨hz2, hzo, hzs⟩ := Ns.put4 (v0 := .slice h'.aN D2.now.length h'.cN) (v1 := .slice h'.aS D2.sure.length h'.cS) (v2 := .slice h'.aL D2.loo.length h'.cL) (v3 := .bool D2.lost) hz
     have hBs := Ns.below4 (v0 := .slice h'.aN D2.now.length h'.cN) (v1 := .slice h'.aS D2.sure.length h'.cS) (v2 := .slice h'.aL D2.loo.length h'.cL) (v3 := .bool D2.lost) Hl hbzW
     rw [hws] at hz2 hzo hzs hBs
     have hxd2 := hxd.keepBut (fun k _ hk => hzo k (fun e => hnz (e ▸ hk))) (by rw [hzs]; exact Nat.le_refl _)
     unfold Ns.st4 at hws; rw [hws]; clear hws
     refine hK.out _ _ hBs fun Hl => ?_; clear hK K
     refine Tm 11 ?pT ?vT Hl ?rT
     simp only [Act.put, Pa, Pb, Pc]
     refine wpAnyH_done (by kernel_rfl) ?_ _
     clear HS
     go_wp2_with fail
     go_meet
     case rel => exact ⟨bz, h', rfl, rfl, hz2, hxd2, hbzW, hnw3, Hl⟩
   case sF =>
    intro K hK; go_simp
    obtain ⟨waa, hwa⟩ := Nq (wdx.alloc (.cells #[.slice none 0 0, .slice none 0 0, .slice none 0 0, .bool false] 34))
    rw [hwa]
    have hba : Below wdx.heap.size wdx waa := by rw [← hwa]; exact bel1 _ _
    have hz : waa.heap[wdx.heap.size]? = some (.cells #[.slice none 0 0, .slice none 0 0, .slice none 0 0, .bool false] 34 (0, 0)) := by rw [← hwa]; exact heap_alloc_last _ _
    obtain ⟨bz, hbz⟩ := Nq (wdx.heap.size)
    rw [hbz] at hz ⊢
    have hbzW : w3.heap.size ≤ bz := by rw [← hbz]; exact Hl.size
    have hbzc : wdx.heap.size ≤ bz := by rw [← hbz]; exact Nat.le_refl _
    clear hwa hbz
    have Baa := Hl.trans (hba.mono Hl.size)
    refine hK.out _ _ Baa fun Hl => ?_; clear hK K
    refine Rd 3 ?pU ?sU
    intro K hK; go_simp; rw [HWG.out]
    refine (Ns.refPlace_any (g + 1) HG1.out _).mono ?_; rintro e v3 ⟨rfl, hv3⟩
    obtain rfl := hv3.symm
    clear hv3
    refine hK.out _ _ Hl fun Hl => ?_; clear hK K
    refine Rd 5 ?pV ?sV
    intro K hK; go_simp; rw [HPL.out]
    refine (Ns.rwrite_any h D n _ _ waa HRR.out.ok HSZ.out (HX.out.keep (Bu HBW.out Hl Lr))).mono ?_; rintro e v5 ⟨h', rfl, hxd, hnw, hb5⟩
    have hnw3 : ∀ k, h'.blk k → h.blk k ∨ w3.heap.size ≤ k := fun k hk => (hnw k hk).imp id (fun h => Nat.le_trans Hl.size h)
    rw [HWC.out]; rw [HD2.out] at hxd ⊢
    simp only [Ns.wrV, Ns.Hd.vals]
    have B5 := Hl.trans (hb5.mono Hl.size)
    have hnz : ¬ h'.blk bz := fun e => by
     rcases hnw bz e with e | e
     ·have := (HX.out.lt bz e); have := HBW.out.size; omega
     ·have := (Array.getElem?_eq_some_iff.1 hz).1; omega
    have hz := Br hz hb5
    obtain ⟨⟨k0, k1, k2, k3⟩, kf⟩ := row4 hz
    have kf0 := kf 0
    have kf1 := kf 1
    have kf2 := kf 2
    have kf3 := kf 3
    refine hK.out _ _ B5 fun Hl => ?_; clear hK K
    refine Tm 6 ?pW ?vW Hl ?rW
    refine Tm 7 ?pX ?vX Hl ?rX
    refine Tm 8 ?pY ?vY Hl ?rY
    simp only [Act.put, Pa, Pb, Pc]
    refine Rd 10 ?pZ ?sZ
    intro K hK; go_simp
    obtain ⟨ws935s, hws⟩ := Nq (Ns.st4 v5 bz (.slice h'.aN D2.now.length h'.cN) (.slice h'.aS D2.sure.length h'.cS) (.slice h'.aL D2.loo.length h'.cL) (.bool D2.lost))
    obtain ⟨hz2, hzo, hzs⟩ := Ns.put4 (v0 := .slice h'.aN D2.now.length h'.cN) (v1 := .slice h'.aS D2.sure.length h'.cS) (v2 := .slice h'.aL D2.loo.length h'.cL) (v3 := .bool D2.lost) hz
    have hBs := Ns.below4 (v0 := .slice h'.aN D2.now.length h'.cN) (v1 := .slice h'.aS D2.sure.length h'.cS) (v2 := .slice h'.aL D2.loo.length h'.cL) (v3 := .bool D2.lost) Hl hbzW
    rw [hws] at hz2 hzo hzs hBs
    have hxd2 := hxd.keepBut (fun k _ hk => hzo k (fun e => hnz (e ▸ hk))) (by rw [hzs]; exact Nat.le_refl _)
    unfold Ns.st4 at hws; rw [hws]; clear hws
    refine hK.out _ _ hBs fun Hl => ?_; clear hK K
    refine Tm 11 ?pa ?va Hl ?ra
    simp only [Act.put, Pa, Pb, Pc]
    refine wpAnyH_done (by kernel_rfl) ?_ _
    clear HS
    go_wp2_with fail
    go_meet
    case rel => exact ⟨bz, h', rfl, rfl, hz2, hxd2, hbzW, hnw3, Hl⟩
  case rest =>
   obtain ⟨bz, h', rfl, rfl, hz2, hxd, hbz, hnw, hbc⟩ := hcut
   have hfl := Ns.rflush_any h' D2 wc (by rw [HWR.out.ok.l1]; exact HWR.out.ok.n1.2) hxd
   have HRF := Hf (Ns.M.rr_flush HWR.out)
   rw [← HN.out] at HRF
   obtain ⟨D3, hD3⟩ := Nq (Ns.M.dflush D2)
   rw [hD3] at hfl HRF; unfold Ns.Hd.vals at hz2 hfl
   obtain ⟨⟨k0, k1, k2, k3⟩, _⟩ := row4 hz2
   have HNh := Hf hnw
   have HBc := Hf hbc
   have hbig : w.heap.size + 2 ≤ w3.heap.size := by have := HB13.out.size; omega
   clear hz2 hxd hnw hbc hD3 HS
   go_wp2_with fail
   refine hfl.mono ?_; rintro e w5 ⟨h2, rfl, hxd2, hnw2, hb5⟩
   have hb35 := Bu HBc.out hb5 Lr
   have hR1 := Br HR1.out (Bu HB13.out hb35 Lr)
   have hapart : ∀ k, h2.blk k → k ≠ w.heap.size + 1 ∧ (h.blk k ∨ w.heap.size ≤ k) := fun k hk => by
    have hs := HBc.out.size
    rcases hnw2 k hk with h1 | h1
    ·rcases HNh.out k h1 with h3 | h3
     ·have := HX.out.lt k h3
      exact ⟨by omega, .inl h3⟩
     ·exact ⟨by omega, .inr (by omega)⟩
    ·exact ⟨by omega, .inr (by omega)⟩
   obtain ⟨q1, q2⟩ := Ns.ret4 (h := h) (v := fun vs => .tuple #[.agg vs, .int .i64 0]) (Bu HBW.out hb35 Lr) hR1 hxd2 hapart
   obtain ⟨⟨m0, m1, m2, m3⟩, mf⟩ := row4 hR1
   have mf0 := mf 0
   have mf1 := mf 1
   have mf2 := mf 2
   have mf3 := mf 3
   obtain ⟨W6, hW6⟩ := Nq (Ns.st4 w5 (w.heap.size + 1) (.slice h2.aN D3.now.length h2.cN) (.slice h2.aS D3.sure.length h2.cS) (.slice h2.aL D3.loo.length h2.cL) (.bool D3.lost))
   rw [hW6] at q1 q2
   have HFIN : Hid (∃ h' D', Ending.returned (.tuple #[.agg #[.slice h2.aN D3.now.length h2.cN, .slice h2.aS D3.sure.length h2.cS, .slice h2.aL D3.loo.length h2.cL, .bool D3.lost], .int .i64 0]) = .returned (.tuple #[.agg #[.slice h'.aN D'.now.length h'.cN, .slice h'.aS D'.sure.length h'.cS, .slice h'.aL D'.loo.length h'.cL, .bool D'.lost], .int .i64 0]) ∧ XD W6 h' D' ∧ RR n (Ns.nxN P body.data.toList) false D' ∧ (∀ k, h'.blk k → h.blk k ∨ w.heap.size ≤ k) ∧ Below w.heap.size w W6) := Hf (by
    obtain ⟨h', e, x, nb, b⟩ := q2
    exact ⟨h', D3, e, x, HRF.out, nb, b⟩)
   have HQ1 := Hf q1
   unfold Ns.st4 at hW6
   have HW6 := Hf hW6
   unfold Ns.Hd.vals at HQ1; unfold Ns.Hd.vals; clear hfl hxd2 hnw2 hb5 hb35 hR1 hapart q1 q2 mf k0 k1 k2 k3 hW6; go_wp2; rw [HW6.out]
   refine bodyPost_ret (v := .tuple #[.agg #[.slice h2.aN D3.now.length h2.cN, .slice h2.aS D3.sure.length h2.cS, .slice h2.aL D3.loo.length h2.cL, .bool D3.lost], .int .i64 0]) ?_ rfl HFIN.out
   exact Ns.res_cell_tmp4 f80_res _ _ (w.heap.size + 1) _ _ _ _ rfl HQ1.out
end Go.Proofs.YtlnedgjikkhplaaGreat.Du
