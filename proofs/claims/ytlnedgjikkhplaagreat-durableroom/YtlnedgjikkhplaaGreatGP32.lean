import Derived.Test.YtlnedgjikkhplaaGreatGP31
import Derived.Shelf.SlSortCmp.WholeK
set_option maxRecDepth 100000
set_option maxHeartbeats 8000000
set_option linter.unusedVariables false
set_option linter.unusedSimpArgs false
namespace Go.Proofs.YtlnedgjikkhplaaGreat.Du
open Go.RowKit
open Na (Fr AS XL vl bV vV Hf bel1 bel2 Bu Br row2 row4 blk OwnL AtL)
open Na.M (E V S S0)
open Ns (Hd XD)
open Ns.M (DD RR ofL)
theorem res41_2 {fn : Func} {p u : Tmp} (h : fn.results = #[.cell p 41, .tmp u]) (tmps : Array Value) (w : World) (g : Nat) (H : Hx) (D : DD) (x : X) (hp : tmps.getD p undef = .pointer (some ⟨g, 0, none⟩)) (hg : w.heap[g]? = some (.cells (dvv H D x) 41 (0, 0))) :
  (results fn tmps).run Tryz.prog w = .ok (.tuple #[.agg (dvv H D x), tmps.getD u undef]) w := by
 have hp' : tmps[p]?.getD undef = .pointer (some ⟨g, 0, none⟩) := by simpa using hp
 rw [results_cell_tmp h]
 simp [asAddr, hp', run_loadVar_row w g 41 41 (dvv H D x) (0, 0) _ hg Tryz.underlying41 rfl (size41 H D x)]
theorem f98_res : Tryz.f98.results = #[.cell 4 41, .tmp 5] := rfl
def addY (x : X) (r : R) : X := { x with n := x.n + 1, us := x.us + sec x.ep x.n r }
def AdO (w : World) (H : Hx) (D : DD) (n : Nat) (P : List Ns.M.Pl) (x : X) (r : R) (e : Ending) (w' : World) : Prop :=
 (rm n x r = true ∧ ∃ H' D', e = .returned (.tuple #[.agg (dvv H' D' (addY x r)), .int .i64 0]) ∧ XX w' H' D' n (addP n P x r) (addY x r) ∧ New w H H' ∧ Below w.heap.size w w') ∨ (rm n x r = false ∧ e = .returned (.tuple #[.agg (dvv H D x), .int .i64 5]) ∧ Below w.heap.size w w')
section
variable {w w' : World} {H : Hx} {D : DD} {n : Nat} {P : List Ns.M.Pl} {x : X} {rs : List R}
theorem dvv_set0 (H : Hx) (D D' : DD) (x : X) (h' : Hd) : ((((dvv H D x).setIfInBounds 0 (.slice h'.aN D'.now.length h'.cN)).setIfInBounds 1 (.slice h'.aS D'.sure.length h'.cS)).setIfInBounds 2 (.slice h'.aL D'.loo.length h'.cL)).setIfInBounds 3 (.bool D'.lost) = dvv ⟨h', H.ad, H.c⟩ D' x := rfl
theorem dvv_us (H : Hx) (D : DD) (x : X) (u : Nat) : (dvv H D x).setIfInBounds 6 (.int .i64 u) = dvv H D { x with us := u } := rfl
theorem dvv_n (H : Hx) (D : DD) (x : X) (u : Nat) : (dvv H D x).setIfInBounds 7 (.int .i64 u) = dvv H D { x with n := u } := rfl
theorem dadd_any (hx : XX w H D n P x) (hg : Gd n P x rs) (r : R) (hr : Wf r) : Calls Tryz.prog 98 #[.agg (dvv H D x), .string (ofL (kb r))] w (AdO w H D n P x r) := by
 obtain ⟨W1, HW1⟩ := Nh ((w.alloc (.cells (dvv H D x) 41)).alloc (.cells Z13 41))
 have hs1 : W1.heap.size = w.heap.size + 2 := by rw [← HW1.out]; simp
 have hb1 : Below w.heap.size w W1 := by rw [← HW1.out]; exact bel2 w _ _
 have hr1 : W1.heap[w.heap.size]? = some (.cells (dvv H D x) 41 (0, 0)) := by rw [← HW1.out]; exact heap_alloc2_old w _ _
 have hr2 : W1.heap[w.heap.size + 1]? = some (.cells Z13 41 (0, 0)) := by rw [← HW1.out]; exact heap_alloc2_new w _ _
 have hep := hg.ep
 have hnn := hg.nn
 have hle := hg.le
 have hn10 := hg.n10
 obtain ⟨hln, hn1, hn4⟩ := hx.len
 have hc := drecord_any x.ep x.n r W1 (by omega) (by omega) hr
 have hrz : (ofL (Du.rec x.ep x.n r)).size = sec x.ep x.n r * 64 := by rw [Ns.M.ofL_size, rec_len]
 have hrle := rec_le x.ep x.n r (by omega) (by omega) hr
 rw [rec_len] at hrle
 obtain ⟨z, hz⟩ := Nq (sec x.ep x.n r)
 obtain ⟨R0, hR0⟩ := Nq (ofL (Du.rec x.ep x.n r))
 have hz1 := sec_pos x.ep x.n r
 have HADD : Hid (z ≤ hf n - x.us → Ns.M.wcode n false ((8 + x.ar * hf n + x.us : Nat) : Int) R0 = 0 ∧ Ns.M.flush (Ns.M.wrote n false P ((8 + x.ar * hf n + x.us : Nat) : Int) R0) = addP n P x r) := fun hfit => by
  have h2 := hf_le n (by omega)
  have h3 := mul_le1 (h := hf n) hg.ar
  have := write_ok (n := n) (P := P) (8 + x.ar * hf n + x.us) z R0 (by rw [← hR0, hrz, hz]) (by omega) (by omega)
  refine ⟨this.1, ?_⟩
  rw [this.2]; unfold addP; rw [hz, hR0]
 rw [hz, hR0] at hrz; rw [hz] at hrle hz1; rw [hR0] at hc
 have HZ := Hf hz
 have HX := Hf hx
 have HR1 := Hf hr1
 have HR2 := Hf hr2
 have HB1 := Hf hb1
 have HN := Hf hln
 have HN8 : Hid (8 ≤ n) := Hf (by omega)
 have HN4 := Hf hn4
 have HLE := Hf hle
 have har := hg.ar
 have hh4 : hf n ≤ 4096 := by unfold hf; omega
 have hdv : ((z : Int) * 64) / 64 = (z : Int) := by omega
 obtain ⟨⟨_, _, _, _, _, c5, _, c7, _⟩, _⟩ := rowD hr1
 clear hx hg hb1 hr1 hr2 hR0 hz hr hln hn1 hn4 hn10
 go_enter Tryz.func98, Tryz.ntmps98
 go_upto_region 1 with fail
 rw [HW1.out]; clear HW1
 go_wp2_with fail
 refine hc.mono ?_; rintro e w2 ⟨rfl, hb2⟩
 have hR1 := Br HR1.out hb2
 have hR2 := Br HR2.out hb2
 have HB2 := Hf (Bu HB1.out hb2 Lr)
 have hld := load41_row hR1
 have HRa := Hf hR1
 have HRb := Hf hR2
 have hroom := droom_any (w := w2) (H := H) (x := x) HN.out HN8.out HN4.out HLE.out
 clear hc hb2 hR1 hR2 c5 c7 HR1 HR2
 go_wp2_with fail
 refine hroom.mono ?_; rintro e w3 ⟨rfl, hb3⟩
 have HB3 := Hf (Bu HB2.out hb3 Lr)
 have hR1 := Br HRa.out hb3
 have hR2 := Br HRb.out hb3
 have hld3 := load41_row hR1
 clear hroom hb3 hld HRa HRb
 by_cases hfit : z ≤ hf n - x.us
 ·have hgt : decide (hf n - x.us < z) = false := decide_eq_false (by omega)
  obtain ⟨hwc, hfl⟩ := HADD.out hfit
  have HRM : Hid (rm n x r = true) := by show rm n x r = true; unfold rm; rw [HZ.out]; exact decide_eq_true hfit
  have HFL := Hf hfl
  have HFIT := Hf hfit
  obtain ⟨A0, hA0⟩ := Nq (((8 + x.ar * hf n + x.us : Nat) : Int))
  rw [hA0] at hwc HFL
  obtain ⟨D2, hD2⟩ := Nq (Ns.M.dwrote D A0 R0)
  have HR2D := Hf (HX.out.rr.write A0 R0)
  rw [hD2] at HR2D
  have HD2 := Hf hD2
  have HWC : Hid (Ns.wrV (Ns.M.wcode D.now.length D.lost A0 R0) = Ns.wrV 0) := Hf (by rw [HX.out.rr.code, hwc])
  have HSZ : Hid (R0.size ≤ 131072) := Hf (by omega)
  have HBW := HB3
  have HA1 : Hid (IntKind.i64.wrap (IntKind.i64.wrap (8 + IntKind.i64.wrap ((x.ar : Int) * (hf n : Int))) + (x.us : Int)) = A0) := Hf (by
   have h3 := mul_le1 (h := hf n) har
   rw [← hA0, ← Int.natCast_mul]
   generalize x.ar * hf n = y at *
   have e1 : IntKind.i64.wrap (y : Int) = (y : Int) := by rw [IntKind.wrap_i64]; omega
   rw [e1]
   have e2 : IntKind.i64.wrap (8 + (y : Int)) = 8 + (y : Int) := by rw [IntKind.wrap_i64]; omega
   rw [e2, IntKind.wrap_i64]
   omega)
  have HS : Hid (∀ w', Below w3.heap.size w3 w' → w'.cell? ⟨w.heap.size, 0, none⟩ = some (.slice H.h.aN D.now.length H.h.cN) ∧ w'.cell? ⟨w.heap.size, 1, none⟩ = some (.slice H.h.aS D.sure.length H.h.cS) ∧ w'.cell? ⟨w.heap.size, 2, none⟩ = some (.slice H.h.aL D.loo.length H.h.cL) ∧ w'.cell? ⟨w.heap.size, 3, none⟩ = some (.bool D.lost) ∧ w'.cell? ⟨w.heap.size, 4, none⟩ = some (.int .i64 x.ar) ∧ w'.cell? ⟨w.heap.size, 5, none⟩ = some (.int .i64 x.ep) ∧ w'.cell? ⟨w.heap.size, 6, none⟩ = some (.int .i64 x.us) ∧ w'.cell? ⟨w.heap.size, 7, none⟩ = some (.int .i64 x.n) ∧ w'.cell? ⟨w.heap.size, 8, none⟩ = some (.int .i64 x.a.p.i) ∧ w'.cell? ⟨w.heap.size, 9, none⟩ = some (.int .i64 x.a.p.t) ∧ w'.cell? ⟨w.heap.size, 10, none⟩ = some (.int .i64 x.a.base) ∧ w'.cell? ⟨w.heap.size, 11, none⟩ = some (.slice H.ad x.a.l.length H.c) ∧ w'.cell? ⟨w.heap.size, 12, none⟩ = some (.bool x.cut)) := fun w' hb => (rowD (Br hR1 hb)).1
  clear hfit hfl hA0 hwc HADD hld3 hD2
  go_upto_region 5 with fail
  go_cut [8, 9] from 24 to 40 (fun p e wx => ∃ bz h', p = ptr bz ∧ e = .int .i64 0 ∧ wx.heap[bz]? = some (.cells (h'.vals D2) 34 (0, 0)) ∧ XD wx h' D2 ∧ w3.heap.size ≤ bz ∧ (∀ k, h'.blk k → H.h.blk k ∨ w3.heap.size ≤ k) ∧ Below w3.heap.size w3 wx)
  case first =>
    refine wp_region_held_drew (S := fun wq => Below (w3).heap.size (w3) wq) (by kernel_rfl) (Below.drew (Below.refl _ _)) fun Hl => ?_
    obtain ⟨wdx, hwdx⟩ := Nq (w3.drew)
    have hBwd : Below w3.heap.size w3 wdx := by rw [← hwdx]; exact Below.drew (Below.refl _ _)
    rw [hwdx] at Hl ⊢; clear hwdx
    refine Tm 0 ?pA ?vA Hl ?rA
    refine Tk 1 ?pB ?vB ?yB Hl ?rB
    case yB => intro q h; obtain ⟨z0, z1, z2, z3, z4, z5, z6, z7, z8, z9, z10, z11, z12⟩ := HS.out q h; go_simp; try with_reducible rfl
    refine Tm 2 ?pC ?vC Hl ?rC
    refine Tk 3 ?pD ?vD ?yD Hl ?rD
    case yD => intro q h; obtain ⟨z0, z1, z2, z3, z4, z5, z6, z7, z8, z9, z10, z11, z12⟩ := HS.out q h; go_simp; try with_reducible rfl
    refine Tm 4 ?pE ?vE Hl ?rE
    refine Tk 5 ?pF ?vF ?yF Hl ?rF
    case yF => intro q h; obtain ⟨z0, z1, z2, z3, z4, z5, z6, z7, z8, z9, z10, z11, z12⟩ := HS.out q h; go_simp; try with_reducible rfl
    refine Tm 9 ?pG ?vG Hl ?rG
    refine Tk 10 ?pH ?vH ?yH Hl ?rH
    case yH => intro q h; obtain ⟨z0, z1, z2, z3, z4, z5, z6, z7, z8, z9, z10, z11, z12⟩ := HS.out q h; go_simp; try with_reducible rfl
    refine Tm 12 ?pI ?vI Hl ?rI
    simp only [Act.put, Pa, Pb, Pc]
    refine Rn [6, 17] (Rc ?pJ ?sJ (Rc ?pK ?sK AllReadyH.nil))
    case sJ =>
     intro K hK; go_simp
     refine (half_any H.h D n _ HN.out HN8.out HN4.out).mono ?_; rintro e v6 ⟨rfl, hb6⟩
     have B6 := Hl.trans (hb6.mono Hl.size)
     refine hK.out _ _ B6 fun Hl => ?_; clear hK K
     refine Tm 7 ?pL ?vL Hl ?rL
     refine Tm 8 ?pM ?vM Hl ?rM
     refine Tm 11 ?pN ?vN Hl ?rN
     simp only [Act.put, Pa, Pb, Pc]
     refine Rn [13, 17] (Rc ?pO ?sO (Rc ?pP ?sP AllReadyH.nil))
     case sO =>
      intro K hK; go_simp; rw [HA1.out]
      refine (Ns.rwrite_any H.h D n _ _ v6 HX.out.rr.ok HSZ.out (HX.out.xd.keep (Bu HBW.out Hl Lr))).mono ?_; rintro e v13 ⟨h', rfl, hxd, hnw, hb13⟩
      have hnw3 : ∀ k, h'.blk k → H.h.blk k ∨ w3.heap.size ≤ k := fun k hk => (hnw k hk).imp id (fun h => Nat.le_trans Hl.size h)
      rw [HWC.out]; rw [HD2.out] at hxd ⊢
      simp only [Ns.wrV, Ns.Hd.vals]
      have B13 := Hl.trans (hb13.mono Hl.size)
      refine hK.out _ _ B13 fun Hl => ?_; clear hK K
      refine Tm 14 ?pQ ?vQ Hl ?rQ
      refine Tm 15 ?pR ?vR Hl ?rR
      refine Tm 16 ?pS ?vS Hl ?rS
      simp only [Act.put, Pa, Pb, Pc]
      refine Rd 17 ?pT ?sT
      intro K hK; go_simp
      obtain ⟨wa613a, hwa⟩ := Nq (v13.alloc (.cells #[.slice none 0 0, .slice none 0 0, .slice none 0 0, .bool false] 34))
      rw [hwa]
      have hba : Below v13.heap.size v13 wa613a := by rw [← hwa]; exact bel1 _ _
      have hz : wa613a.heap[v13.heap.size]? = some (.cells #[.slice none 0 0, .slice none 0 0, .slice none 0 0, .bool false] 34 (0, 0)) := by rw [← hwa]; exact heap_alloc_last _ _
      obtain ⟨bz, hbz⟩ := Nq (v13.heap.size)
      rw [hbz] at hz ⊢
      have hbzW : w3.heap.size ≤ bz := by rw [← hbz]; exact Hl.size
      have hbzc : v13.heap.size ≤ bz := by rw [← hbz]; exact Nat.le_refl _
      clear hwa hbz
      have Ba613a := Hl.trans (hba.mono Hl.size)
      have hnz : ¬ h'.blk bz := fun e => by have := hxd.lt bz e; omega
      have hxd := hxd.keep hba
      obtain ⟨⟨k0, k1, k2, k3⟩, kf⟩ := row4 hz
      have kf0 := kf 0
      have kf1 := kf 1
      have kf2 := kf 2
      have kf3 := kf 3
      refine hK.out _ _ Ba613a fun Hl => ?_; clear hK K
      refine Rd 18 ?pU ?sU
      intro K hK; go_simp
      obtain ⟨ws61317s, hws⟩ := Nq (Ns.st4 wa613a bz (.slice h'.aN D2.now.length h'.cN) (.slice h'.aS D2.sure.length h'.cS) (.slice h'.aL D2.loo.length h'.cL) (.bool D2.lost))
      obtain ⟨hz2, hzo, hzs⟩ := Ns.put4 (v0 := .slice h'.aN D2.now.length h'.cN) (v1 := .slice h'.aS D2.sure.length h'.cS) (v2 := .slice h'.aL D2.loo.length h'.cL) (v3 := .bool D2.lost) hz
      have hBs := Ns.below4 (v0 := .slice h'.aN D2.now.length h'.cN) (v1 := .slice h'.aS D2.sure.length h'.cS) (v2 := .slice h'.aL D2.loo.length h'.cL) (v3 := .bool D2.lost) Hl hbzW
      rw [hws] at hz2 hzo hzs hBs
      have hxd2 := hxd.keepBut (fun k _ hk => hzo k (fun e => hnz (e ▸ hk))) (by rw [hzs]; exact Nat.le_refl _)
      unfold Ns.st4 at hws; rw [hws]; clear hws
      refine hK.out _ _ hBs fun Hl => ?_; clear hK K
      refine Tm 19 ?pV ?vV Hl ?rV
      simp only [Act.put, Pa, Pb, Pc]
      refine wpAnyH_done (by kernel_rfl) ?_ _
      clear HS
      go_wp2_with fail
      go_meet
      case rel => exact ⟨bz, h', rfl, rfl, hz2, hxd2, hbzW, hnw3, Hl⟩
     case sP =>
      intro K hK; go_simp
      obtain ⟨wa6a, hwa⟩ := Nq (v6.alloc (.cells #[.slice none 0 0, .slice none 0 0, .slice none 0 0, .bool false] 34))
      rw [hwa]
      have hba : Below v6.heap.size v6 wa6a := by rw [← hwa]; exact bel1 _ _
      have hz : wa6a.heap[v6.heap.size]? = some (.cells #[.slice none 0 0, .slice none 0 0, .slice none 0 0, .bool false] 34 (0, 0)) := by rw [← hwa]; exact heap_alloc_last _ _
      obtain ⟨bz, hbz⟩ := Nq (v6.heap.size)
      rw [hbz] at hz ⊢
      have hbzW : w3.heap.size ≤ bz := by rw [← hbz]; exact Hl.size
      have hbzc : v6.heap.size ≤ bz := by rw [← hbz]; exact Nat.le_refl _
      clear hwa hbz
      have Ba6a := Hl.trans (hba.mono Hl.size)
      refine hK.out _ _ Ba6a fun Hl => ?_; clear hK K
      refine Rd 13 ?pW ?sW
      intro K hK; go_simp; rw [HA1.out]
      refine (Ns.rwrite_any H.h D n _ _ wa6a HX.out.rr.ok HSZ.out (HX.out.xd.keep (Bu HBW.out Hl Lr))).mono ?_; rintro e v13 ⟨h', rfl, hxd, hnw, hb13⟩
      have hnw3 : ∀ k, h'.blk k → H.h.blk k ∨ w3.heap.size ≤ k := fun k hk => (hnw k hk).imp id (fun h => Nat.le_trans Hl.size h)
      rw [HWC.out]; rw [HD2.out] at hxd ⊢
      simp only [Ns.wrV, Ns.Hd.vals]
      have B13 := Hl.trans (hb13.mono Hl.size)
      have hnz : ¬ h'.blk bz := fun e => by
       rcases hnw bz e with e | e
       ·have := (HX.out.xd.lt bz e); have := HBW.out.size; omega
       ·have := (Array.getElem?_eq_some_iff.1 hz).1; omega
      have hz := Br hz hb13
      obtain ⟨⟨k0, k1, k2, k3⟩, kf⟩ := row4 hz
      have kf0 := kf 0
      have kf1 := kf 1
      have kf2 := kf 2
      have kf3 := kf 3
      refine hK.out _ _ B13 fun Hl => ?_; clear hK K
      refine Tm 14 ?pX ?vX Hl ?rX
      refine Tm 15 ?pY ?vY Hl ?rY
      refine Tm 16 ?pZ ?vZ Hl ?rZ
      simp only [Act.put, Pa, Pb, Pc]
      refine Rd 18 ?pa ?sa
      intro K hK; go_simp
      obtain ⟨ws61713s, hws⟩ := Nq (Ns.st4 v13 bz (.slice h'.aN D2.now.length h'.cN) (.slice h'.aS D2.sure.length h'.cS) (.slice h'.aL D2.loo.length h'.cL) (.bool D2.lost))
      obtain ⟨hz2, hzo, hzs⟩ := Ns.put4 (v0 := .slice h'.aN D2.now.length h'.cN) (v1 := .slice h'.aS D2.sure.length h'.cS) (v2 := .slice h'.aL D2.loo.length h'.cL) (v3 := .bool D2.lost) hz
      have hBs := Ns.below4 (v0 := .slice h'.aN D2.now.length h'.cN) (v1 := .slice h'.aS D2.sure.length h'.cS) (v2 := .slice h'.aL D2.loo.length h'.cL) (v3 := .bool D2.lost) Hl hbzW
      rw [hws] at hz2 hzo hzs hBs
      have hxd2 := hxd.keepBut (fun k _ hk => hzo k (fun e => hnz (e ▸ hk))) (by rw [hzs]; exact Nat.le_refl _)
      unfold Ns.st4 at hws; rw [hws]; clear hws
      refine hK.out _ _ hBs fun Hl => ?_; clear hK K
      refine Tm 19 ?pb ?vb Hl ?rb
      simp only [Act.put, Pa, Pb, Pc]
      refine wpAnyH_done (by kernel_rfl) ?_ _
      clear HS
      go_wp2_with fail
      go_meet
      case rel => exact ⟨bz, h', rfl, rfl, hz2, hxd2, hbzW, hnw3, Hl⟩
    case sK =>
     intro K hK; go_simp
     obtain ⟨waa, hwa⟩ := Nq (wdx.alloc (.cells #[.slice none 0 0, .slice none 0 0, .slice none 0 0, .bool false] 34))
     rw [hwa]
     have hba : Below wdx.heap.size wdx waa := by rw [← hwa]; exact bel1 _ _
     have hz : waa.heap[wdx.heap.size]? = some (.cells #[.slice none 0 0, .slice none 0 0, .slice none 0 0, .bool false] 34 (0, 0)) := by rw [← hwa]; exact heap_alloc_last _ _
     obtain ⟨bz, hbz⟩ := Nq (wdx.heap.size)
     rw [hbz] at hz ⊢
     have hbzW : w3.heap.size ≤ bz := by rw [← hbz]; exact Hl.size
     have hbzc : wdx.heap.size ≤ bz := by rw [← hbz]; exact Nat.le_refl _
     clear hwa hbz
     have Baa := Hl.trans (hba.mono Hl.size)
     refine hK.out _ _ Baa fun Hl => ?_; clear hK K
     refine Rd 6 ?pc ?sc
     intro K hK; go_simp
     refine (half_any H.h D n _ HN.out HN8.out HN4.out).mono ?_; rintro e v6 ⟨rfl, hb6⟩
     have B6 := Hl.trans (hb6.mono Hl.size)
     have hz := Br hz hb6
     refine hK.out _ _ B6 fun Hl => ?_; clear hK K
     refine Tm 7 ?pd ?vd Hl ?rd
     refine Tm 8 ?pe ?ve Hl ?re
     refine Tm 11 ?pf ?vf Hl ?rf
     simp only [Act.put, Pa, Pb, Pc]
     refine Rd 13 ?pg ?sg
     intro K hK; go_simp; rw [HA1.out]
     refine (Ns.rwrite_any H.h D n _ _ v6 HX.out.rr.ok HSZ.out (HX.out.xd.keep (Bu HBW.out Hl Lr))).mono ?_; rintro e v13 ⟨h', rfl, hxd, hnw, hb13⟩
     have hnw3 : ∀ k, h'.blk k → H.h.blk k ∨ w3.heap.size ≤ k := fun k hk => (hnw k hk).imp id (fun h => Nat.le_trans Hl.size h)
     rw [HWC.out]; rw [HD2.out] at hxd ⊢
     simp only [Ns.wrV, Ns.Hd.vals]
     have B13 := Hl.trans (hb13.mono Hl.size)
     have hnz : ¬ h'.blk bz := fun e => by
      rcases hnw bz e with e | e
      ·have := (HX.out.xd.lt bz e); have := HBW.out.size; omega
      ·have := (Array.getElem?_eq_some_iff.1 hz).1; omega
     have hz := Br hz hb13
     obtain ⟨⟨k0, k1, k2, k3⟩, kf⟩ := row4 hz
     have kf0 := kf 0
     have kf1 := kf 1
     have kf2 := kf 2
     have kf3 := kf 3
     refine hK.out _ _ B13 fun Hl => ?_; clear hK K
     refine Tm 14 ?ph ?vh Hl ?rh
     refine Tm 15 ?pi ?vi Hl ?ri
     refine Tm 16 ?pj ?vj Hl ?rj
     simp only [Act.put, Pa, Pb, Pc]
     refine Rd 18 ?pk ?sk
     intro K hK; go_simp
     obtain ⟨ws17613s, hws⟩ := Nq (Ns.st4 v13 bz (.slice h'.aN D2.now.length h'.cN) (.slice h'.aS D2.sure.length h'.cS) (.slice h'.aL D2.loo.length h'.cL) (.bool D2.lost))
     obtain ⟨hz2, hzo, hzs⟩ := Ns.put4 (v0 := .slice h'.aN D2.now.length h'.cN) (v1 := .slice h'.aS D2.sure.length h'.cS) (v2 := .slice h'.aL D2.loo.length h'.cL) (v3 := .bool D2.lost) hz
     have hBs := Ns.below4 (v0 := .slice h'.aN D2.now.length h'.cN) (v1 := .slice h'.aS D2.sure.length h'.cS) (v2 := .slice h'.aL D2.loo.length h'.cL) (v3 := .bool D2.lost) Hl hbzW
     rw [hws] at hz2 hzo hzs hBs
     have hxd2 := hxd.keepBut (fun k _ hk => hzo k (fun e => hnz (e ▸ hk))) (by rw [hzs]; exact Nat.le_refl _)
     unfold Ns.st4 at hws; rw [hws]; clear hws
     refine hK.out _ _ hBs fun Hl => ?_; clear hK K
     refine Tm 19 ?pl ?vl Hl ?rl
     simp only [Act.put, Pa, Pb, Pc]
     refine wpAnyH_done (by kernel_rfl) ?_ _
     clear HS
     go_wp2_with fail
     go_meet
     case rel => exact ⟨bz, h', rfl, rfl, hz2, hxd2, hbzW, hnw3, Hl⟩
  case rest =>
   obtain ⟨bz, h', rfl, rfl, hz, hxd, hbz, hnw, hbc⟩ := hcut
   have hRa := Br hR1 hbc
   have hRb := Br hR2 hbc
   have HBc := Hf (Bu HB3.out hbc Lr)
   have hfl := Ns.rflush_any h' D2 wc (by rw [HR2D.out.ok.l1]; exact HN4.out) hxd
   have HRR3 := Hf (Ns.M.rr_flush HR2D.out)
   rw [HFL.out] at HRR3
   obtain ⟨D3, hD3⟩ := Nq (Ns.M.dflush D2)
   rw [hD3] at hfl HRR3; unfold Ns.Hd.vals at hz hfl
   obtain ⟨⟨k0, k1, k2, k3⟩, _⟩ := row4 hz
   have HRa := Hf hRa
   have HRb := Hf hRb
   have HNh := Hf hnw
   have hwc3 : w3.heap.size ≤ wc.heap.size := hbc.size
   have hbig : w.heap.size + 2 ≤ w3.heap.size := by
    have h1 := (Array.getElem?_eq_some_iff.1 hR2).1
    omega
   clear hz hxd hnw hbc hRa hRb hR1 hR2 hD3 HS HD2 HR2D HFL HWC
   go_wp2_with fail
   refine hfl.mono ?_; rintro e w5 ⟨h2, rfl, hxd2, hnw2, hb5⟩
   have hRa := Br HRa.out hb5
   have hRb := Br HRb.out hb5
   obtain ⟨⟨m0, m1, m2, m3, m4, m5, m6, m7, m8, m9, m10, m11, m12⟩, mf⟩ := rowD hRa
   have mf0 := mf 0
   have mf1 := mf 1
   have mf2 := mf 2
   have mf3 := mf 3
   obtain ⟨W6, hW6⟩ := Nq (Ns.st4 w5 w.heap.size (.slice h2.aN D3.now.length h2.cN) (.slice h2.aS D3.sure.length h2.cS) (.slice h2.aL D3.loo.length h2.cL) (.bool D3.lost))
   have hB6 := Ns.below4 (v0 := .slice h2.aN D3.now.length h2.cN) (v1 := .slice h2.aS D3.sure.length h2.cS) (v2 := .slice h2.aL D3.loo.length h2.cL) (v3 := .bool D3.lost) (Bu HBc.out hb5 Lr) (Nat.le_refl w.heap.size)
   have hR6 : W6.heap[w.heap.size]? = some (.cells (dvv ⟨h2, H.ad, H.c⟩ D3 x) 41 (0, 0)) := by
    rw [← hW6, ← dvv_set0 H D D3 x h2]
    exact heap_setCell_same _ _ 3 _ _ _ (heap_setCell_same _ _ 2 _ _ _ (heap_setCell_same _ _ 1 _ _ _ (heap_setCell_same _ _ 0 _ _ _ hRa)))
   have hO6 : ∀ k, k ≠ w.heap.size → W6.heap[k]? = w5.heap[k]? := fun k hk => by
    rw [← hW6]; unfold Ns.st4; rw [heap_setCell_other _ ⟨w.heap.size, 3, none⟩ k _ hk, heap_setCell_other _ ⟨w.heap.size, 2, none⟩ k _ hk, heap_setCell_other _ ⟨w.heap.size, 1, none⟩ k _ hk, heap_setCell_other _ ⟨w.heap.size, 0, none⟩ k _ hk]
   have hs6 : W6.heap.size = w5.heap.size := by rw [← hW6]; simp [Ns.st4]
   rw [hW6] at hB6; unfold Ns.st4 at hW6
   have HW6 := Hf hW6
   have HR6 := Hf hR6
   have HO6 := Hf hO6
   have HS6 := Hf hs6
   have HB6 := Hf hB6
   have HX2 := Hf hxd2
   have HN2 := Hf hnw2
   have HRb5 := Hf hRb
   have HB5 := Hf hb5
   simp only [Ns.Hd.vals]
   clear hfl hxd2 hnw2 hb5 hRa hRb mf hW6 hR6 hO6 hs6 hB6 k0 k1 k2 k3 m4 m5 m6 m7 m8 m9 m10 m11 m12
   go_upto_region 10 with fail
   rw [HW6.out]; clear HW6 m0 m1 m2 m3 mf0 mf1 mf2 mf3
   obtain ⟨⟨_, _, _, _, _, _, m6, m7, _⟩, mf⟩ := rowD HR6.out
   have mf6 := mf 6
   obtain ⟨W7, hW7⟩ := Nq (W6.setCell ⟨w.heap.size, 6, none⟩ (.int .i64 ((x.us : Int) + (z : Int))))
   have hR7 : W7.heap[w.heap.size]? = some (.cells (dvv ⟨h2, H.ad, H.c⟩ D3 { x with us := x.us + z }) 41 (0, 0)) := by
    rw [← hW7, ← dvv_us, Int.natCast_add]
    exact heap_setCell_same _ _ 6 _ _ _ HR6.out
   have hO7 : ∀ k, k ≠ w.heap.size → W7.heap[k]? = w5.heap[k]? := fun k hk => by rw [← hW7, heap_setCell_other _ ⟨w.heap.size, 6, none⟩ k _ hk]; exact HO6.out k hk
   have hs7 : W7.heap.size = w5.heap.size := by rw [← hW7]; simp [HS6.out]
   have hB7 : Below w.heap.size w W7 := by rw [← hW7]; exact HB6.out.setCell Lr _
   have HW7 := Hf hW7
   have HR7 := Hf hR7
   have HO7 := Hf hO7
   have HS7 := Hf hs7
   have HB7 := Hf hB7
   clear mf hW7 hR7 hO7 hs7 hB7 m7 HR6 HO6 HS6 HB6
   go_upto_region 11 with fail
   rw [HW7.out]; clear HW7 m6 mf6
   obtain ⟨⟨_, _, _, _, _, _, _, m7, _⟩, mf⟩ := rowD HR7.out
   have mf7 := mf 7
   obtain ⟨W8, hW8⟩ := Nq (W7.setCell ⟨w.heap.size, 7, none⟩ (.int .i64 ((x.n : Int) + 1)))
   have hR8 : W8.heap[w.heap.size]? = some (.cells (dvv ⟨h2, H.ad, H.c⟩ D3 (addY x r)) 41 (0, 0)) := by
    rw [← hW8, show addY x r = { { x with us := x.us + z } with n := x.n + 1 } by unfold addY; rw [HZ.out], ← dvv_n, Int.natCast_add]
    exact heap_setCell_same _ _ 7 _ _ _ HR7.out
   have hO8 : ∀ k, k ≠ w.heap.size → W8.heap[k]? = w5.heap[k]? := fun k hk => by rw [← hW8, heap_setCell_other _ ⟨w.heap.size, 7, none⟩ k _ hk]; exact HO7.out k hk
   have hs8 : W8.heap.size = w5.heap.size := by rw [← hW8]; simp [HS7.out]
   have hB8 : Below w.heap.size w W8 := by rw [← hW8]; exact HB7.out.setCell Lr _
   have HW8 := Hf hW8
   have hld8 := load41_row hR8
   have hRb8 : W8.heap[w.heap.size + 1]? = some (.cells Z13 41 (0, 0)) := (hO8 _ (by omega)).trans HRb5.out
   have hst8 := store41_row rfl ⟨h2, H.ad, H.c⟩ D3 (addY x r) hRb8
   have hrow9 := setRow_heap _ _ _ (dvv ⟨h2, H.ad, H.c⟩ D3 (addY x r)) _ _ hRb8
   have hapart : ∀ k, (Hx.mk h2 H.ad H.c).blk k → k ≠ w.heap.size ∧ k ≠ w.heap.size + 1 ∧ (H.blk k ∨ w.heap.size ≤ k) := fun k hk => by
    rcases hk with hk | hk
    ·rcases HN2.out k hk with h1 | h1
     ·rcases HNh.out k h1 with h3 | h3
      ·have := HX.out.xd.lt k h3
       exact ⟨by omega, by omega, .inl (.inl h3)⟩
      ·exact ⟨by omega, by omega, .inr (by omega)⟩
     ·exact ⟨by omega, by omega, .inr (by omega)⟩
    ·have := HX.out.lt k hk
     exact ⟨by omega, by omega, .inl (.inr hk)⟩
   have hX9 : XX (W8.setRow (w.heap.size + 1) (dvv ⟨h2, H.ad, H.c⟩ D3 (addY x r))) ⟨h2, H.ad, H.c⟩ D3 n (addP n P x r) (addY x r) := by
    have hB9 := below_setRow hB8 (show w.heap.size ≤ w.heap.size + 1 from Nat.le_succ _) (dvv ⟨h2, H.ad, H.c⟩ D3 (addY x r))
    have hs9 : (W8.setRow (w.heap.size + 1) (dvv ⟨h2, H.ad, H.c⟩ D3 (addY x r))).heap.size = w5.heap.size := by simp [World.setRow, hs8]
    refine ⟨HX2.out.keepBut (fun k _ hk => ?_) (by rw [hs9]; exact Nat.le_refl _), HRR3.out, HX.out.xl.keepBut (fun k hk _ => hB9.block k hk), fun k hk => ?_⟩
    ·obtain ⟨a1, a2, _⟩ := hapart k (.inl hk)
     rw [setRow_other _ _ _ _ a2]
     exact hO8 k a1
    ·have := HX.out.lt k hk
     have := hB9.size
     omega
   have HFIN : Hid (AdO w H D n P x r (.returned (.tuple #[.agg (dvv ⟨h2, H.ad, H.c⟩ D3 (addY x r)), .int .i64 0])) (W8.setRow (w.heap.size + 1) (dvv ⟨h2, H.ad, H.c⟩ D3 (addY x r)))) := .inl ⟨HRM.out, _, _, rfl, hX9, fun k hk => (hapart k hk).2.2, below_setRow hB8 (Nat.le_succ _) _⟩
   have HROW := Hf hrow9
   clear mf hW8 hR8 hO8 hs8 hB8 hRb8 hrow9 hapart hX9 HR7 HO7 HS7 HB7
   go_upto_region 12 with fail
   rw [HW8.out]; clear HW8 m7 mf7; go_wp2
   refine bodyPost_ret (v := .tuple #[.agg (dvv ⟨h2, H.ad, H.c⟩ D3 (addY x r)), .int .i64 0]) ?_ rfl HFIN.out
   exact res41_2 f98_res _ _ (w.heap.size + 1) _ _ _ rfl HROW.out
 ·have hgt : decide (hf n - x.us < z) = true := decide_eq_true (by omega)
  have HRM : Hid (rm n x r = false) := by show rm n x r = false; unfold rm; rw [HZ.out]; exact decide_eq_false hfit
  have hst := store41_row rfl H D x hR2
  have hrow := setRow_heap _ _ _ (dvv H D x) _ _ hR2
  have HFIN : Hid (AdO w H D n P x r (.returned (.tuple #[.agg (dvv H D x), .int .i64 5])) (w3.setRow (w.heap.size + 1) (dvv H D x))) := .inr ⟨HRM.out, rfl, below_setRow HB3.out (Nat.le_succ _) _⟩
  have HROW := Hf hrow
  clear hrow hR1 hR2 HADD; go_wp2
  refine bodyPost_ret (v := .tuple #[.agg (dvv H D x), .int .i64 5]) ?_ rfl HFIN.out
  exact res41_2 f98_res _ _ (w.heap.size + 1) _ _ _ rfl HROW.out
end
end Go.Proofs.YtlnedgjikkhplaaGreat.Du
namespace Go.Proofs.YtlnedgjikkhplaaGreat.Ns
open Go.Shelf
def Tryz.sortFn_ren : Go.Shelf.Ren := ⟨fun | 6 => 114 | 15 => 157 | 14 => 156 | 28 => 191 | 29 => 192 | 20 => 183 | 21 => 184 | 22 => 185 | 23 => 186 | 24 => 187 | 25 => 188 | 26 => 189 | 27 => 190 | 46 => 211 | 47 => 212 | 48 => 213 | 49 => 214 | 50 => 215 | 57 => 221 | n => n, fun | 22 => 37 | 24 => 48 | 25 => 189 | 3 => 3 | 39 => 115 | 0 => 0 | 53 => 196 | 55 => 51 | 4 => 4 | 46 => 238 | 45 => 237 | 50 => 178 | 5 => 5 | 9 => 9 | 66 => 254 | 70 => 258 | 76 => 264 | 77 => 265 | n => n, fun | n => n⟩
theorem Tryz.sortFn : Go.Proofs.SlLaysF0.n6 Tryz.prog Tryz.sortFn_ren := {
 mixed := by kernel_rfl
 f6 := ⟨Tryz.f114.name, by decide, Tryz.func114.trans (congrArg some (by kernel_rfl))⟩
 f14 := ⟨Tryz.f156.name, by decide, Tryz.func156.trans (congrArg some (by kernel_rfl))⟩
 f15 := Tryz.func157.trans (congrArg some (by kernel_rfl))
 f20 := ⟨Tryz.f183.name, by decide, Tryz.func183.trans (congrArg some (by kernel_rfl))⟩
 f21 := ⟨Tryz.f184.name, by decide, Tryz.func184.trans (congrArg some (by kernel_rfl))⟩
 f22 := ⟨Tryz.f185.name, by decide, Tryz.func185.trans (congrArg some (by kernel_rfl))⟩
 f23 := ⟨Tryz.f186.name, by decide, Tryz.func186.trans (congrArg some (by kernel_rfl))⟩
 f24 := ⟨Tryz.f187.name, by decide, Tryz.func187.trans (congrArg some (by kernel_rfl))⟩
 f25 := ⟨Tryz.f188.name, by decide, Tryz.func188.trans (congrArg some (by kernel_rfl))⟩
 f26 := ⟨Tryz.f189.name, by decide, Tryz.func189.trans (congrArg some (by kernel_rfl))⟩
 f27 := ⟨Tryz.f190.name, by decide, Tryz.func190.trans (congrArg some (by kernel_rfl))⟩
 f28 := Tryz.func191.trans (congrArg some (by kernel_rfl))
 f29 := Tryz.func192.trans (congrArg some (by kernel_rfl))
 f46 := ⟨Tryz.f211.name, by decide, Tryz.func211.trans (congrArg some (by kernel_rfl))⟩
 f47 := Tryz.func212.trans (congrArg some (by kernel_rfl))
 f48 := Tryz.func213.trans (congrArg some (by kernel_rfl))
 f49 := ⟨Tryz.f214.name, by decide, Tryz.func214.trans (congrArg some (by kernel_rfl))⟩
 f50 := ⟨Tryz.f215.name, by decide, Tryz.func215.trans (congrArg some (by kernel_rfl))⟩
 f57 := ⟨Tryz.f221.name, by decide, Tryz.func221.trans (congrArg some (by kernel_rfl))⟩
 t0 := Tryz.underlying0
 a0 := Tryz.isAgg0
 z0 := Tryz.sizeOf0
 v0 := Tryz.zeroValue0
 t3 := Tryz.underlying3
 a3 := Tryz.isAgg3
 z3 := Tryz.sizeOf3
 v3 := Tryz.zeroValue3
 t4 := Tryz.underlying4
 a4 := Tryz.isAgg4
 z4 := Tryz.sizeOf4
 v4 := Tryz.zeroValue4
 t5 := Tryz.underlying5
 a5 := Tryz.isAgg5
 z5 := Tryz.sizeOf5
 v5 := Tryz.zeroValue5
 t9 := Tryz.underlying9
 a9 := Tryz.isAgg9
 z9 := Tryz.sizeOf9
 v9 := Tryz.zeroValue9
 t22 := Tryz.underlying37
 a22 := Tryz.isAgg37
 z22 := Tryz.sizeOf37
 v22 := Tryz.zeroValue37
 t25 := Tryz.underlying189
 a25 := Tryz.isAgg189
 z25 := Tryz.sizeOf189
 v25 := Tryz.zeroValue189
 t39 := Tryz.underlying115
 a39 := Tryz.isAgg115
 z39 := Tryz.sizeOf115
 v39 := Tryz.zeroValue115
 t45 := Tryz.underlying237
 a45 := Tryz.isAgg237
 z45 := Tryz.sizeOf237
 v45 := Tryz.zeroValue237
 t46 := Tryz.underlying238
 a46 := Tryz.isAgg238
 z46 := Tryz.sizeOf238
 v46 := Tryz.zeroValue238
 t50 := Tryz.underlying178
 a50 := Tryz.isAgg178
 z50 := Tryz.sizeOf178
 v50 := Tryz.zeroValue178
 t53 := Tryz.underlying196
 a53 := Tryz.isAgg196
 z53 := Tryz.sizeOf196
 v53 := Tryz.zeroValue196
 t55 := Tryz.underlying51
 a55 := Tryz.isAgg51
 z55 := Tryz.sizeOf51
 v55 := Tryz.zeroValue51
 t66 := Tryz.underlying254
 a66 := Tryz.isAgg254
 z66 := Tryz.sizeOf254
 v66 := Tryz.zeroValue254
 t70 := Tryz.underlying258
 a70 := Tryz.isAgg258
 z70 := Tryz.sizeOf258
 v70 := Tryz.zeroValue258
 t76 := Tryz.underlying264
 a76 := Tryz.isAgg264
 z76 := Tryz.sizeOf264
 v76 := Tryz.zeroValue264
 t77 := Tryz.underlying265
 a77 := Tryz.isAgg265
 z77 := Tryz.sizeOf265
 v77 := Tryz.zeroValue265 }
end Go.Proofs.YtlnedgjikkhplaaGreat.Ns
