import Derived.Test.YtlnedgjikkhplaaGreatGP41
set_option maxRecDepth 100000
set_option maxHeartbeats 8000000
set_option linter.unusedVariables false
set_option linter.unusedSimpArgs false
namespace Go.Proofs.YtlnedgjikkhplaaGreat.Du
open Go.RowKit
open Na (Fr AS XL vl bV vV Hf bel1 bel2 Bu Br row2 row4 blk OwnL AtL)
open Na.M (E V S S0)
open Ns (Hd XD)
open Ns.M (DD RR ofL)
theorem f29_res : Tryz.f29.results = #[.cell 4 41, .tmp 5] := rfl
def DCo (w : World) (H : Hx) (n : Nat) (x : X) (steps : Int) (e : Ending) (w' : World) : Prop :=
 ∃ H' D' P' rs', e = .returned (.tuple #[.agg (dvv H' D' (ccx n x steps)), .int .i64 (ccc n x steps)]) ∧ XX w' H' D' n P' (ccx n x steps) ∧ Gd n P' (ccx n x steps) rs' ∧ New w H H' ∧ Below w.heap.size w w'
section
variable {n : Nat} {x : X} {s : Int}
theorem c_cut (hc : x.cut = true) : ccx n x s = x ∧ ccc n x s = 16 := by
 unfold ccx ccc; rw [if_pos (.inl hc), if_pos hc]
 exact ⟨rfl, rfl⟩
theorem c_full (hc : x.cut = false) (hr : ccr n x = false) : ccx n x s = x ∧ ccc n x s = 5 := by
 unfold ccx ccc; rw [if_pos (.inr hr), if_neg (by rw [hc]; simp), if_pos hr]
 exact ⟨rfl, rfl⟩
theorem c_part (hc : x.cut = false) (hr : ccr n x = true) (hs : ccs s = true) : ccx n x s = cutX x ∧ ccc n x s = 16 := by
 unfold ccx ccc; rw [if_neg (by rw [hc, hr]; simp), if_pos hs, if_neg (by rw [hc]; simp), if_neg (by rw [hr]; simp), if_pos hs]
 exact ⟨rfl, rfl⟩
theorem c_done (hc : x.cut = false) (hr : ccr n x = true) (hs : ccs s = false) : ccx n x s = cmpX x ∧ ccc n x s = 0 := by
 unfold ccx ccc; rw [if_neg (by rw [hc, hr]; simp), if_neg (by rw [hs]; simp), if_neg (by rw [hc]; simp), if_neg (by rw [hr]; simp), if_neg (by rw [hs]; simp)]
 exact ⟨rfl, rfl⟩
end
structure CS (w : World) (H : Hx) (D : DD) (y : X) (W : World) : Prop where
 r0 : W.heap[w.heap.size]? = some (.cells (dvv H D y) 41 (0, 0))
 r1 : W.heap[w.heap.size + 1]? = some (.cells Z13 41 (0, 0))
 bel : Below w.heap.size w W
section
variable {w W W' : World} {H H' : Hx} {D D' : DD} {n : Nat} {P P' : List Ns.M.Pl} {x y : X} {rs rs' : List R} {steps c : Int}
theorem CS.keep (h : CS w H D y W) (hb : Below W.heap.size W W') : CS w H D y W' := ⟨Br h.r0 hb, Br h.r1 hb, Bu h.bel hb Lr⟩
theorem CS.sz (h : CS w H D y W) : w.heap.size + 2 ≤ W.heap.size := (Array.getElem?_eq_some_iff.1 h.r1).1
theorem CS.cut (h : CS w H D y W) : CS w H D (cutX y) (W.setCell ⟨w.heap.size, 12, none⟩ (.bool true)) :=
 ⟨heap_setCell_same _ _ 12 _ _ _ h.r0, (heap_setCell_other _ ⟨w.heap.size, 12, none⟩ _ _ (by simp)).trans h.r1, h.bel.setCell Lr _⟩
theorem CS.dev (h : CS w H D y W) (h' : Hd) (D' : DD) : CS w ⟨h', H.ad, H.c⟩ D' y (Ns.st4 W w.heap.size (.slice h'.aN D'.now.length h'.cN) (.slice h'.aS D'.sure.length h'.cS) (.slice h'.aL D'.loo.length h'.cL) (.bool D'.lost)) := by
 refine ⟨?_, ?_, Ns.below4 h.bel Lr⟩
 ·rw [← dvv_set0 H D D' y h']
  exact heap_setCell_same _ _ 3 _ _ _ (heap_setCell_same _ _ 2 _ _ _ (heap_setCell_same _ _ 1 _ _ _ (heap_setCell_same _ _ 0 _ _ _ h.r0)))
 ·unfold Ns.st4
  rw [heap_setCell_other _ ⟨w.heap.size, 3, none⟩ _ _ (by simp), heap_setCell_other _ ⟨w.heap.size, 2, none⟩ _ _ (by simp), heap_setCell_other _ ⟨w.heap.size, 1, none⟩ _ _ (by simp), heap_setCell_other _ ⟨w.heap.size, 0, none⟩ _ _ (by simp)]
  exact h.r1
theorem CS.put (hr1 : W.heap[w.heap.size + 1]? = some (.cells Z13 41 (0, 0))) (hb : Below w.heap.size w W) (hx : XX W H' D' n P' y) (hap : ∀ k, H'.blk k → k ≠ w.heap.size + 1) (hg : Gd n P' y rs') (hn : New w H H') (heq : ccx n x steps = y ∧ ccc n x steps = c) :
  (st41 ⟨w.heap.size + 1, 0, none⟩ (dvv H' D' y)).run Tryz.prog W = .ok () (W.setRow (w.heap.size + 1) (dvv H' D' y)) ∧ (W.setRow (w.heap.size + 1) (dvv H' D' y)).heap[w.heap.size + 1]? = some (.cells (dvv H' D' y) 41 (0, 0)) ∧ DCo w H n x steps (.returned (.tuple #[.agg (dvv H' D' y), .int .i64 c])) (W.setRow (w.heap.size + 1) (dvv H' D' y)) := by
 refine ⟨store41_row rfl _ _ _ hr1, setRow_heap _ _ _ (dvv H' D' y) _ _ hr1, ?_⟩
 obtain ⟨rfl, rfl⟩ := heq
 exact ⟨H', D', P', rs', rfl, hx.keepBut (fun k _ hk => setRow_other _ _ _ _ (hap k hk)) (by simp [World.setRow]), hg, hn, below_setRow hb (by omega) _⟩
theorem XX.cut (h : XX W H D n P x) : XX W H D n P (cutX x) := ⟨h.xd, h.rr, h.xl, h.lt⟩
end
theorem recl (e : Nat) (l : List R) (he : e ≤ 2147483648) (hw : ∀ r ∈ l, Wf r) : ∀ k, k + l.length ≤ 2147483648 → (recs e k l).length ≤ 4400 * l.length := by
 induction l with
 | nil => intro k _; simp [recs]
 | cons r l ih =>
  intro k hk; rw [List.length_cons] at hk
  have h1 := rec_le e k r he (by omega) (hw r (by simp))
  have h2 := ih (fun q hq => hw q (by simp [hq])) (k + 1) (by omega)
  rw [recs, List.length_append, List.length_cons]
  omega
theorem recst (e : Nat) (l : List R) (j : Nat) (hj : j < l.length) : ofL (recs e 0 (l.take j)) ++ ofL (Du.rec e j l[j]) = ofL (recs e 0 (l.take (j + 1))) := by
 have hlj : (l.take j).length = j := by simp; omega
 rw [Ns.M.ofL_app, List.take_succ_eq_append_getElem hj, recs_app, hlj, Nat.zero_add]
 congr 1
 simp [recs]
theorem wrapA (k h : Nat) (hk : k * h ≤ 100000) : IntKind.i64.wrap (8 + IntKind.i64.wrap ((k : Int) * (h : Int))) = ((8 + k * h : Nat) : Int) := by
 rw [← Int.natCast_mul]
 generalize k * h = y at *
 rw [IntKind.wrap_i64, IntKind.wrap_i64]
 omega
theorem wrapZ (h z : Nat) (hz : z ≤ h) (hh : h ≤ 5000) : IntKind.i64.wrap (64 * IntKind.i64.wrap ((h : Int) - (z : Int))) = (((h - z) * 64 : Nat) : Int) := by
 rw [IntKind.wrap_i64, IntKind.wrap_i64]
 omega
section
variable {w : World} {H : Hx} {D : DD} {n : Nat} {P : List Ns.M.Pl} {x : X} {rs : List R}
theorem dcp_any (hx : XX w H D n P x) (hg : Gd n P x rs) (hn : n ≤ 1024) (he : x.ep < 2147483647) (steps : Int) : Calls Tryz.prog 29 #[.agg (dvv H D x), .int .i64 steps] w (DCo w H n x steps) := by
 obtain ⟨W1, HW1⟩ := Nh ((w.alloc (.cells (dvv H D x) 41)).alloc (.cells Z13 41))
 have hcs : CS w H D x W1 := by rw [← HW1.out]; exact ⟨heap_alloc2_old w _ _, heap_alloc2_new w _ _, bel2 w _ _⟩
 obtain ⟨ok, vd⟩ := hg.aok
 have HAP : Hid (∀ k, H.blk k → k < w.heap.size) := Hf hx.blt
 have HX := Hf hx
 have HG := Hf hg
 have HN := Hf hx.len.1
 have HN8 : Hid (8 ≤ n) := Hf (by have := hg.n10; omega)
 have HN4 := Hf hg.nle
 have HNS := Hf hn
 have HEP := Hf he
 cases hct : x.cut with
 | true =>
  obtain ⟨hst, hrow, hfin⟩ := CS.put (H := H) (x := x) (steps := steps) hcs.r1 hcs.bel (hx.keep hcs.bel) (fun k hb => by have := HAP.out k hb; omega) hg (New.refl _ _) (c_cut hct)
  have hld := load41_row hcs.r0
  obtain ⟨⟨_, _, _, _, _, _, _, _, _, _, _, _, z12⟩, zf⟩ := rowD hcs.r0
  rw [hct] at z12
  have HFIN := Hf hfin
  have HROW := Hf hrow
  clear hrow hfin zf hcs hct ok vd hx hg
  go_enter Tryz.func29, Tryz.ntmps29
  go_upto_region 1 with fail
  rw [HW1.out]; clear HW1; go_wp2
  refine bodyPost_ret (v := .tuple #[.agg (dvv H D x), .int .i64 16]) ?_ rfl HFIN.out
  exact res41_2 f29_res _ _ (w.heap.size + 1) _ _ _ rfl HROW.out
 | false =>
  obtain ⟨⟨_, _, _, _, _, _, _, _, z8, z9, z10, z11, z12⟩, zf⟩ := rowD hcs.r0
  rw [hct] at z12
  have HCT := Hf hct
  have hall := dall_any x.a H.ad H.c W1 (hx.xl.keep hcs.bel) ok vd
  clear zf hct
  go_enter Tryz.func29, Tryz.ntmps29
  go_upto_region 1 with fail
  rw [HW1.out]; clear HW1
  go_wp2_with fail
  refine hall.mono ?_; rintro e w2 ⟨al, lc, rfl, hat, hbk, hb2⟩
  have HC2 := Hf (hcs.keep hb2)
  have HFW := Hf (few_wf ok vd)
  have hfl := few_len ok
  obtain ⟨F, hF⟩ := Nq (few x.a)
  rw [hF] at hat HFW hfl ⊢
  have HF := Hf hF
  have HAT := Hf hat
  clear hall hat hbk hb2 z8 z9 z10 z11 z12 hF ok vd hcs; go_wp2
  go_loopw [8, 7] (fun i s wr => ∃ j : Nat, j ≤ F.length ∧ i = .int .i64 j ∧ s = .string (ofL (recs (x.ep + 1) 0 (F.take j))) ∧ Below w2.heap.size w2 wr) (fun i _ _ => F.length - (intOf i).toNat)
  case atStart => exact ⟨0, Nat.zero_le _, rfl, rfl, Below.refl _ _⟩
  case round =>
   obtain ⟨j, hj, rfl, rfl, hbq⟩ := hrel
   have HBQ := Hf hbq
   by_cases hlt : j < F.length
   ·obtain ⟨g0, o0, rfl, q0⟩ := getT (HAT.out.keep hbq) j (by rw [List.length_map]; exact hlt)
    rw [List.getElem_map] at q0
    have HST := Hf (recst (x.ep + 1) F j hlt)
    have hre := fun W => drecord_any (x.ep + 1) j F[j] W (by omega) (by omega) (HFW.out _ (List.getElem_mem _))
    have hsl : (recs (x.ep + 1) 0 (F.take j)).length ≤ 4400 * j := by
     have := recl (x.ep + 1) (F.take j) (by omega) (fun r hr => HFW.out r (List.mem_of_mem_take hr)) 0 (by rw [List.length_take]; omega)
     rw [List.length_take] at this
     omega
    have hrl : (Du.rec (x.ep + 1) j F[j]).length ≤ 4400 := rec_le _ _ _ (by omega) (by omega) (HFW.out _ (List.getElem_mem _))
    have hs0 : (ofL (recs (x.ep + 1) 0 (F.take j))).size ≤ 4400 * j := by rw [Ns.M.ofL_size]; exact hsl
    have hs1 : (ofL (Du.rec (x.ep + 1) j F[j])).size ≤ 4400 := by rw [Ns.M.ofL_size]; exact hrl
    have HQ0 : Hid (ofL (kb F[j]) = tx F[j]) := Hf rfl
    rw [HQ0.out] at hre
    have hcz1 : ¬ (9223372036854775807 < (ofL (recs (x.ep + 1) 0 (F.take j))).size + (ofL (Du.rec (x.ep + 1) j F[j])).size) := by omega
    generalize ofL (Du.rec (x.ep + 1) j F[j]) = R0 at *
    obtain ⟨S1, hS1⟩ := Nq (ofL (recs (x.ep + 1) 0 (F.take (j + 1))))
    rw [hS1] at HST
    have HS1 := Hf hS1
    clear hS1
    generalize ofL (recs (x.ep + 1) 0 (F.take j)) = S0 at *
    generalize tx F[j] = TT at *
    have HWE : Hid (IntKind.i64.wrap ((x.ep : Int) + 1) = ((x.ep + 1 : Nat) : Int)) := Hf (by rw [IntKind.wrap_i64]; omega)
    have HRE := Hf hre
    have HS : Hid (∀ w', Below wr.heap.size wr w' → w'.cell? ⟨w.heap.size, 5, none⟩ = some (.int .i64 x.ep) ∧ w'.cell? ⟨g0, o0 + j, none⟩ = some (.string TT)) := Hf fun w' hb => by
     obtain ⟨⟨_, _, _, _, _, z5, _, _, _, _, _, _, _⟩, zf⟩ := rowD (Br (Br HC2.out.r0 HBQ.out) hb)
     exact ⟨z5, (World.cell?_of_block (w := wr) (a := ⟨g0, o0 + j, none⟩) (hb.block g0 (World.block_lt_of_cell? wr _ q0))).trans q0⟩
    have hji : (j : Int) < (F.length : Int) := by omega
    clear hre q0 hsl hrl hbq HQ0
    go_wp2_with fail
    refine wp_region_held_drew (S := fun wq => Below (wr).heap.size (wr) wq) (by kernel_rfl) (Below.drew (Below.refl _ _)) fun Hl => ?_
    obtain ⟨wdx, hwdx⟩ := Nq (wr.drew)
    have hBwd : Below wr.heap.size wr wdx := by rw [← hwdx]; exact Below.drew (Below.refl _ _)
    rw [hwdx] at Hl ⊢; clear hwdx
    refine Tm 0 ?pA ?vA Hl ?rA
    refine Tm 1 ?pB ?vB Hl ?rB
    refine Tk 2 ?pC ?vC ?yC Hl ?rC
    case yC => intro q h; obtain ⟨z5, q0⟩ := HS.out q h; go_simp; try with_reducible rfl
    refine Tm 3 ?pD ?vD Hl ?rD
    refine Tm 4 ?pE ?vE Hl ?rE
    refine Tm 5 ?pF ?vF Hl ?rF
    refine Tm 6 ?pG ?vG Hl ?rG
    refine Tm 7 ?pH ?vH Hl ?rH
    refine Tk 8 ?pI ?vI ?yI Hl ?rI
    case yI => intro q h; obtain ⟨z5, q0⟩ := HS.out q h; go_simp; try with_reducible rfl
    simp only [Act.put, Pa, Pb, Pc]
    refine Rd 9 ?pJ ?sJ
    intro K hK; go_simp; rw [HWE.out]
    refine (HRE.out _).mono ?_; rintro e v9 ⟨rfl, hb9⟩
    have B9 := Hl.trans (hb9.mono Hl.size)
    refine hK.out _ _ B9 fun Hl => ?_; clear hK K
    refine Tm 10 ?pK ?vK Hl ?rK
    refine Tm 11 ?pL ?vL Hl ?rL
    simp only [Act.put, Pa, Pb, Pc]
    refine wpAnyH_done (by kernel_rfl) ?_ _
    have HBF := Hf (Bu HBQ.out Hl Lr)
    clear Hl HS
    go_wp2_with fail
    rw [HST.out]
    go_roundw
    case rel => exact ⟨j + 1, by omega, by go_num, by rw [HS1.out], HBF.out⟩
    case measure => simp [intOf]; omega
   ·obtain rfl : j = F.length := by omega
    rw [List.take_length]
    have hZ : (ofL (recs (x.ep + 1) 0 F)).size = secs (x.ep + 1) 0 F * 64 := by rw [Ns.M.ofL_size, recs_len]
    have hZb : secs (x.ep + 1) 0 F * 64 ≤ 4400 * F.length := by rw [← recs_len]; exact recl (x.ep + 1) F (by omega) HFW.out 0 (by omega)
    obtain ⟨Z, hZe⟩ := Nq (secs (x.ep + 1) 0 F)
    obtain ⟨T0, hT0⟩ := Nq (ofL (recs (x.ep + 1) 0 F))
    rw [hZe] at hZ hZb; rw [hT0] at hZ ⊢
    have HZE := Hf hZe
    have HT0 := Hf hT0
    have hC3 := HC2.out.keep hbq
    have HC3 := Hf hC3
    obtain ⟨⟨z0, z1, z2, z3, z4, _, _, _, _, _, _, _, _⟩, zf⟩ := rowD hC3.r0
    have hha := half_any H.h D n wr HN.out HN8.out HN4.out
    unfold Ns.Hd.vals at hha
    have hdv : ((Z * 64 : Nat) : Int) / 64 = (Z : Int) := by omega
    have hdv2 : ((Z : Int) * 64) / 64 = (Z : Int) := by omega
    have har := HG.out.ar
    have HO1 : Hid ((1 : Int) - (x.ar : Int) = ((1 - x.ar : Nat) : Int)) := Hf (by omega)
    have HAP3 := HAP
    clear hbq hC3 zf hZe hT0 HC2 HFW HAT
    go_upto_region 10 with fail
    rw [HO1.out]; clear HO1 z4
    go_wp2_with fail
    refine hha.mono ?_; rintro e w3 ⟨rfl, hb3⟩
    have HCS := Hf (HC3.out.keep hb3)
    clear hha hb3 HC3 HBQ z0 z1 z2 z3
    by_cases hfit : Z ≤ hf n
    ·have hgt : decide (hf n < Z) = false := decide_eq_false (by omega)
     have HFIT : Hid (secs (x.ep + 1) 0 (few x.a) ≤ hf n) := Hf (by rw [HF.out, HZE.out]; exact hfit)
     have HCR : Hid (ccr n x = true) := Hf (decide_eq_true HFIT.out)
     have HXC := Hf (HX.out.keep HCS.out.bel)
     by_cases h0 : steps = 0
     ·have HSS : Hid (ccs steps = true) := Hf (ccs_yes (k := 0) (by omega) (by simpa using h0))
      have hs0 : (steps == 0) = true := by simpa using h0
      clear h0
      obtain ⟨⟨_, _, _, _, _, _, _, _, _, _, _, _, z12⟩, zf⟩ := rowD HCS.out.r0
      have zf12 := zf 12
      obtain ⟨W9, hW9⟩ := Nq (w3.setCell ⟨w.heap.size, 12, none⟩ (.bool true))
      have hc9 := HCS.out.cut
      have hx9 := (HXC.out).cut.keepBut (w' := w3.setCell ⟨w.heap.size, 12, none⟩ (.bool true)) (fun k hk hb => heap_setCell_other _ ⟨w.heap.size, 12, none⟩ _ _ ((fun k hb => (by have := HAP.out k hb; exact ⟨by omega, by omega⟩ : k ≠ w.heap.size ∧ k ≠ w.heap.size + 1)) k hb).1) (by simp)
      rw [hW9] at hc9 hx9
      obtain ⟨hst, hrow, hfin⟩ := CS.put (H := H) (x := x) (steps := steps) hc9.r1 hc9.bel hx9 (fun k hb => ((fun k hb => (by have := HAP.out k hb; exact ⟨by omega, by omega⟩ : k ≠ w.heap.size ∧ k ≠ w.heap.size + 1)) k hb).2) HG.out.cut0 (New.refl _ _) (c_part HCT.out HCR.out HSS.out)
      have hld := load41_row hc9.r0
      have HFIN := Hf hfin
      have HROW := Hf hrow
      have HW9 := Hf hW9
      clear hc9 hx9 hrow hfin hW9 zf
      go_upto_region 14 with fail
      rw [HW9.out]; go_wp2
      refine bodyPost_ret (v := .tuple #[.agg (dvv H D (cutX x)), .int .i64 16]) ?_ rfl HFIN.out
      exact res41_2 f29_res _ _ (w.heap.size + 1) _ _ _ rfl HROW.out
     ·have hs0 : (steps == 0) = false := by simpa using h0
      have HH0 := Hf h0
      clear h0
      obtain ⟨A0, hA0⟩ := Nq (((8 + (1 - x.ar) * hf n : Nat) : Int))
      obtain ⟨CT, hCT⟩ := Nq (ofL (ctx n x))
      have hcz : CT.size = hf n * 64 := by rw [← hCT, Ns.M.ofL_size, ctx_len HFIT.out]
      have hh4 : hf n ≤ 512 := by have := HNS.out; unfold hf; omega
      have hh1 : 1 ≤ hf n := by have := HG.out.n10; unfold hf; omega
      have hwo := write_ok (n := n) (P := P) (8 + (1 - x.ar) * hf n) (hf n) CT hcz hh1 (by
       have h2 := hf_le n HN8.out
       have h3 := mul_le1 (k := 1 - x.ar) (h := hf n) (by omega)
       omega)
      rw [hA0] at hwo
      obtain ⟨D2, hD2⟩ := Nq (Ns.M.dwrote D A0 CT)
      have HRR2 : Hid (RR n (w1P n P x) false D2) := Hf (by
       have := HX.out.rr.write A0 CT
       rw [hD2, hwo.2] at this; unfold w1P; rw [hCT]
       exact this)
      have HD2 := Hf hD2
      have HWC : Hid (Ns.wrV (Ns.M.wcode D.now.length D.lost A0 CT) = Ns.wrV 0) := Hf (by rw [HX.out.rr.code, hwo.1])
      have HSZ : Hid (CT.size ≤ 131072) := Hf (by omega)
      have HBW := Hf HCS.out.bel
      have HA1 : Hid (IntKind.i64.wrap (8 + IntKind.i64.wrap (((1 - x.ar : Nat) : Int) * (hf n : Int))) = A0) := Hf (by
       rw [← hA0]
       exact wrapA (1 - x.ar) (hf n) (by have h3 := mul_le1 (k := 1 - x.ar) (h := hf n) (by omega); omega))
      have HZA : Hid (IntKind.i64.wrap (64 * IntKind.i64.wrap ((hf n : Int) - (Z : Int))) = (((hf n - Z) * 64 : Nat) : Int)) := Hf (wrapZ (hf n) Z hfit (by omega))
      have HZB : Hid ((hf n - Z) * 64 ≤ 65536) := Hf (by omega)
      have HTX : Hid (T0 ++ ofL (List.replicate ((hf n - Z) * 64) 0) = CT) := Hf (by
       rw [← hCT, ← HT0.out, Ns.M.ofL_app]; unfold ctx; rw [HF.out, HZE.out])
      have hcz2 : ¬ (9223372036854775807 < Z * 64 + (hf n - Z) * 64) := by omega
      have hzl : (ofL (List.replicate ((hf n - Z) * 64) 0)).size = (hf n - Z) * 64 := by rw [Ns.M.ofL_size, List.length_replicate]
      have HS : Hid (∀ w', Below w3.heap.size w3 w' → w'.cell? ⟨w.heap.size, 0, none⟩ = some (.slice H.h.aN D.now.length H.h.cN) ∧ w'.cell? ⟨w.heap.size, 1, none⟩ = some (.slice H.h.aS D.sure.length H.h.cS) ∧ w'.cell? ⟨w.heap.size, 2, none⟩ = some (.slice H.h.aL D.loo.length H.h.cL) ∧ w'.cell? ⟨w.heap.size, 3, none⟩ = some (.bool D.lost)) := Hf fun w' hb => by
       obtain ⟨⟨z0, z1, z2, z3, _, _, _, _, _, _, _, _, _⟩, zf⟩ := rowD (Br HCS.out.r0 hb)
       exact ⟨z0, z1, z2, z3⟩
      clear hA0 hCT hwo hD2 hcz
      go_upto_region 16 with fail
      go_cut [11, 12] from 55 to 75 (fun p e wx => ∃ bz h', p = ptr bz ∧ e = .int .i64 0 ∧ wx.heap[bz]? = some (.cells #[.slice h'.aN D2.now.length h'.cN, .slice h'.aS D2.sure.length h'.cS, .slice h'.aL D2.loo.length h'.cL, .bool D2.lost] 34 (0, 0)) ∧ XD wx h' D2 ∧ w3.heap.size ≤ bz ∧ (∀ k, h'.blk k → H.h.blk k ∨ w3.heap.size ≤ k) ∧ Below w3.heap.size w3 wx)
      case first =>
       refine wp_region_held_drew (S := fun wq => Below (w3).heap.size (w3) wq) (by kernel_rfl) (Below.drew (Below.refl _ _)) fun Hl => ?_
       obtain ⟨wdy, hwdy⟩ := Nq (w3.drew)
       have hBwd : Below w3.heap.size w3 wdy := by rw [← hwdy]; exact Below.drew (Below.refl _ _)
       rw [hwdy] at Hl ⊢; clear hwdy
       refine Tm 0 ?pM ?vM Hl ?rM
       refine Tk 1 ?pN ?vN ?yN Hl ?rN
       case yN => intro q h; obtain ⟨z0, z1, z2, z3⟩ := HS.out q h; go_simp; try with_reducible rfl
       refine Tm 2 ?pO ?vO Hl ?rO
       refine Tm 3 ?pP ?vP Hl ?rP
       refine Tk 4 ?pQ ?vQ ?yQ Hl ?rQ
       case yQ => intro q h; obtain ⟨z0, z1, z2, z3⟩ := HS.out q h; go_simp; try with_reducible rfl
       refine Tm 8 ?pR ?vR Hl ?rR
       refine Tm 9 ?pS ?vS Hl ?rS
       refine Tk 10 ?pT ?vT ?yT Hl ?rT
       case yT => intro q h; obtain ⟨z0, z1, z2, z3⟩ := HS.out q h; go_simp; try with_reducible rfl
       refine Tm 12 ?pU ?vU Hl ?rU
       simp only [Act.put, Pa, Pb, Pc]
       refine Rn [5, 21] (Rc ?pV ?sV (Rc ?pW ?sW AllReadyH.nil))
       case sV =>
        intro K hK; go_simp
        refine (half_any H.h D n _ HN.out HN8.out HN4.out).mono ?_; rintro e v5 ⟨rfl, hb5⟩
        have B5 := Hl.trans (hb5.mono Hl.size)
        refine hK.out _ _ B5 fun Hl => ?_; clear hK K
        refine Tm 6 ?pX ?vX Hl ?rX
        refine Tm 7 ?pY ?vY Hl ?rY
        simp only [Act.put, Pa, Pb, Pc]
        refine Rn [11, 21] (Rc ?pZ ?sZ (Rc ?pa ?sa AllReadyH.nil))
        case sZ =>
         intro K hK; go_simp
         refine (half_any H.h D n _ HN.out HN8.out HN4.out).mono ?_; rintro e v11 ⟨rfl, hb11⟩
         have B11 := Hl.trans (hb11.mono Hl.size)
         refine hK.out _ _ B11 fun Hl => ?_; clear hK K
         refine Tm 13 ?pb ?vb Hl ?rb
         refine Tm 14 ?pc ?vc Hl ?rc
         simp only [Act.put, Pa, Pb, Pc]
         refine Rn [15, 21] (Rc ?pd ?sd (Rc ?pe ?se AllReadyH.nil))
         case sd =>
          intro K hK; go_simp; rw [HZA.out]
          refine (Ns.refZeros_any _ HZB.out _).mono ?_; rintro e v15 ⟨rfl, hb15⟩
          have B15 := Hl.trans (hb15.mono Hl.size)
          refine hK.out _ _ B15 fun Hl => ?_; clear hK K
          refine Tm 16 ?pf ?vf Hl ?rf
          simp only [Act.put, Pa, Pb, Pc]
          refine Rn [17, 21] (Rc ?pg ?sg (Rc ?ph ?sh AllReadyH.nil))
          case sg =>
           intro K hK; go_simp; rw [HA1.out]; rw [HTX.out]
           refine (Ns.rwrite_any H.h D n _ _ v15 HX.out.rr.ok HSZ.out (HX.out.xd.keep (Bu HBW.out Hl Lr))).mono ?_; rintro e v17 ⟨h', rfl, hxd, hnw, hb17⟩
           have hnw3 : ∀ k, h'.blk k → H.h.blk k ∨ w3.heap.size ≤ k := fun k hk => (hnw k hk).imp id (fun h => Nat.le_trans Hl.size h)
           rw [HWC.out]; rw [HD2.out] at hxd ⊢
           simp only [Ns.wrV, Ns.Hd.vals]
           have B17 := Hl.trans (hb17.mono Hl.size)
           refine hK.out _ _ B17 fun Hl => ?_; clear hK K
           refine Tm 18 ?pi ?vi Hl ?ri
           refine Tm 19 ?pj ?vj Hl ?rj
           refine Tm 20 ?pk ?vk Hl ?rk
           simp only [Act.put, Pa, Pb, Pc]
           refine Rd 21 ?pl ?sl
           intro K hK; go_simp
           obtain ⟨wa5111517a, hwa⟩ := Nq (v17.alloc (.cells #[.slice none 0 0, .slice none 0 0, .slice none 0 0, .bool false] 34))
           rw [hwa]
           have hba : Below v17.heap.size v17 wa5111517a := by rw [← hwa]; exact bel1 _ _
           have hz : wa5111517a.heap[v17.heap.size]? = some (.cells #[.slice none 0 0, .slice none 0 0, .slice none 0 0, .bool false] 34 (0, 0)) := by rw [← hwa]; exact heap_alloc_last _ _
           obtain ⟨bz, hbz⟩ := Nq (v17.heap.size)
           rw [hbz] at hz ⊢
           have hbzW : w3.heap.size ≤ bz := by rw [← hbz]; exact Hl.size
           have hbzc : v17.heap.size ≤ bz := by rw [← hbz]; exact Nat.le_refl _
           clear hwa hbz
           have Ba5111517a := Hl.trans (hba.mono Hl.size)
           have hnz : ¬ h'.blk bz := fun e => by have := hxd.lt bz e; omega
           have hxd := hxd.keep hba
           obtain ⟨⟨k0, k1, k2, k3⟩, kf⟩ := row4 hz
           have kf0 := kf 0
           have kf1 := kf 1
           have kf2 := kf 2
           have kf3 := kf 3
           refine hK.out _ _ Ba5111517a fun Hl => ?_; clear hK K
           refine Rd 22 ?pm ?sm
           intro K hK; go_simp
           obtain ⟨ws511151721s, hws⟩ := Nq (Ns.st4 wa5111517a bz (.slice h'.aN D2.now.length h'.cN) (.slice h'.aS D2.sure.length h'.cS) (.slice h'.aL D2.loo.length h'.cL) (.bool D2.lost))
           obtain ⟨hz2, hzo, hzs⟩ := Ns.put4 (v0 := .slice h'.aN D2.now.length h'.cN) (v1 := .slice h'.aS D2.sure.length h'.cS) (v2 := .slice h'.aL D2.loo.length h'.cL) (v3 := .bool D2.lost) hz
           have hBs := Ns.below4 (v0 := .slice h'.aN D2.now.length h'.cN) (v1 := .slice h'.aS D2.sure.length h'.cS) (v2 := .slice h'.aL D2.loo.length h'.cL) (v3 := .bool D2.lost) Hl hbzW
           rw [hws] at hz2 hzo hzs hBs
           have hxd2 := hxd.keepBut (fun k _ hk => hzo k (fun e => hnz (e ▸ hk))) (by rw [hzs]; exact Nat.le_refl _)
           unfold Ns.st4 at hws; rw [hws]; clear hws
           refine hK.out _ _ hBs fun Hl => ?_; clear hK K
           refine Tm 23 ?pn ?vn Hl ?rn
           simp only [Act.put, Pa, Pb, Pc]
           refine wpAnyH_done (by kernel_rfl) ?_ _
           clear HS
           go_wp2_with fail
           go_meet
           case rel => exact ⟨bz, h', rfl, rfl, hz2, hxd2, hbzW, hnw3, Hl⟩
          case sh =>
           intro K hK; go_simp
           obtain ⟨wa51115a, hwa⟩ := Nq (v15.alloc (.cells #[.slice none 0 0, .slice none 0 0, .slice none 0 0, .bool false] 34))
           rw [hwa]
           have hba : Below v15.heap.size v15 wa51115a := by rw [← hwa]; exact bel1 _ _
           have hz : wa51115a.heap[v15.heap.size]? = some (.cells #[.slice none 0 0, .slice none 0 0, .slice none 0 0, .bool false] 34 (0, 0)) := by rw [← hwa]; exact heap_alloc_last _ _
           obtain ⟨bz, hbz⟩ := Nq (v15.heap.size)
           rw [hbz] at hz ⊢
           have hbzW : w3.heap.size ≤ bz := by rw [← hbz]; exact Hl.size
           have hbzc : v15.heap.size ≤ bz := by rw [← hbz]; exact Nat.le_refl _
           clear hwa hbz
           have Ba51115a := Hl.trans (hba.mono Hl.size)
           refine hK.out _ _ Ba51115a fun Hl => ?_; clear hK K
           refine Rd 17 ?po ?so
           intro K hK; go_simp; rw [HA1.out]; rw [HTX.out]
           refine (Ns.rwrite_any H.h D n _ _ wa51115a HX.out.rr.ok HSZ.out (HX.out.xd.keep (Bu HBW.out Hl Lr))).mono ?_; rintro e v17 ⟨h', rfl, hxd, hnw, hb17⟩
           have hnw3 : ∀ k, h'.blk k → H.h.blk k ∨ w3.heap.size ≤ k := fun k hk => (hnw k hk).imp id (fun h => Nat.le_trans Hl.size h)
           rw [HWC.out]; rw [HD2.out] at hxd ⊢
           simp only [Ns.wrV, Ns.Hd.vals]
           have B17 := Hl.trans (hb17.mono Hl.size)
           have hnz : ¬ h'.blk bz := fun e => by
            rcases hnw bz e with e | e
            ·have := (HX.out.xd.lt bz e); have := HBW.out.size; omega
            ·have := (Array.getElem?_eq_some_iff.1 hz).1; omega
           have hz := Br hz hb17
           obtain ⟨⟨k0, k1, k2, k3⟩, kf⟩ := row4 hz
           have kf0 := kf 0
           have kf1 := kf 1
           have kf2 := kf 2
           have kf3 := kf 3
           refine hK.out _ _ B17 fun Hl => ?_; clear hK K
           refine Tm 18 ?pp ?vp Hl ?rp
           refine Tm 19 ?pq ?vq Hl ?rq
           refine Tm 20 ?pr ?vr Hl ?rr
           simp only [Act.put, Pa, Pb, Pc]
           refine Rd 22 ?ps ?ss
           intro K hK; go_simp
           obtain ⟨ws511152117s, hws⟩ := Nq (Ns.st4 v17 bz (.slice h'.aN D2.now.length h'.cN) (.slice h'.aS D2.sure.length h'.cS) (.slice h'.aL D2.loo.length h'.cL) (.bool D2.lost))
           obtain ⟨hz2, hzo, hzs⟩ := Ns.put4 (v0 := .slice h'.aN D2.now.length h'.cN) (v1 := .slice h'.aS D2.sure.length h'.cS) (v2 := .slice h'.aL D2.loo.length h'.cL) (v3 := .bool D2.lost) hz
           have hBs := Ns.below4 (v0 := .slice h'.aN D2.now.length h'.cN) (v1 := .slice h'.aS D2.sure.length h'.cS) (v2 := .slice h'.aL D2.loo.length h'.cL) (v3 := .bool D2.lost) Hl hbzW
           rw [hws] at hz2 hzo hzs hBs
           have hxd2 := hxd.keepBut (fun k _ hk => hzo k (fun e => hnz (e ▸ hk))) (by rw [hzs]; exact Nat.le_refl _)
           unfold Ns.st4 at hws; rw [hws]; clear hws
           refine hK.out _ _ hBs fun Hl => ?_; clear hK K
           refine Tm 23 ?pt ?vt Hl ?rt
           simp only [Act.put, Pa, Pb, Pc]
           refine wpAnyH_done (by kernel_rfl) ?_ _
           clear HS
           go_wp2_with fail
           go_meet
           case rel => exact ⟨bz, h', rfl, rfl, hz2, hxd2, hbzW, hnw3, Hl⟩
         case se =>
          intro K hK; go_simp
          obtain ⟨wa511a, hwa⟩ := Nq (v11.alloc (.cells #[.slice none 0 0, .slice none 0 0, .slice none 0 0, .bool false] 34))
          rw [hwa]
          have hba : Below v11.heap.size v11 wa511a := by rw [← hwa]; exact bel1 _ _
          have hz : wa511a.heap[v11.heap.size]? = some (.cells #[.slice none 0 0, .slice none 0 0, .slice none 0 0, .bool false] 34 (0, 0)) := by rw [← hwa]; exact heap_alloc_last _ _
          obtain ⟨bz, hbz⟩ := Nq (v11.heap.size)
          rw [hbz] at hz ⊢
          have hbzW : w3.heap.size ≤ bz := by rw [← hbz]; exact Hl.size
          have hbzc : v11.heap.size ≤ bz := by rw [← hbz]; exact Nat.le_refl _
          clear hwa hbz
          have Ba511a := Hl.trans (hba.mono Hl.size)
          refine hK.out _ _ Ba511a fun Hl => ?_; clear hK K
          refine Rd 15 ?pu ?su
          intro K hK; go_simp; rw [HZA.out]
          refine (Ns.refZeros_any _ HZB.out _).mono ?_; rintro e v15 ⟨rfl, hb15⟩
          have B15 := Hl.trans (hb15.mono Hl.size)
          have hz := Br hz hb15
          refine hK.out _ _ B15 fun Hl => ?_; clear hK K
          refine Tm 16 ?pv ?vv Hl ?rv
          simp only [Act.put, Pa, Pb, Pc]
          refine Rd 17 ?pw ?sw
          intro K hK; go_simp; rw [HA1.out]; rw [HTX.out]
          refine (Ns.rwrite_any H.h D n _ _ v15 HX.out.rr.ok HSZ.out (HX.out.xd.keep (Bu HBW.out Hl Lr))).mono ?_; rintro e v17 ⟨h', rfl, hxd, hnw, hb17⟩
          have hnw3 : ∀ k, h'.blk k → H.h.blk k ∨ w3.heap.size ≤ k := fun k hk => (hnw k hk).imp id (fun h => Nat.le_trans Hl.size h)
          rw [HWC.out]; rw [HD2.out] at hxd ⊢
          simp only [Ns.wrV, Ns.Hd.vals]
          have B17 := Hl.trans (hb17.mono Hl.size)
          have hnz : ¬ h'.blk bz := fun e => by
           rcases hnw bz e with e | e
           ·have := (HX.out.xd.lt bz e); have := HBW.out.size; omega
           ·have := (Array.getElem?_eq_some_iff.1 hz).1; omega
          have hz := Br hz hb17
          obtain ⟨⟨k0, k1, k2, k3⟩, kf⟩ := row4 hz
          have kf0 := kf 0
          have kf1 := kf 1
          have kf2 := kf 2
          have kf3 := kf 3
          refine hK.out _ _ B17 fun Hl => ?_; clear hK K
          refine Tm 18 ?px ?vx Hl ?rx
          refine Tm 19 ?py ?vy Hl ?ry
          refine Tm 20 ?pz ?vz Hl ?rz
          simp only [Act.put, Pa, Pb, Pc]
          refine Rd 22 ?p0 ?s0
          intro K hK; go_simp
          obtain ⟨ws511211517s, hws⟩ := Nq (Ns.st4 v17 bz (.slice h'.aN D2.now.length h'.cN) (.slice h'.aS D2.sure.length h'.cS) (.slice h'.aL D2.loo.length h'.cL) (.bool D2.lost))
          obtain ⟨hz2, hzo, hzs⟩ := Ns.put4 (v0 := .slice h'.aN D2.now.length h'.cN) (v1 := .slice h'.aS D2.sure.length h'.cS) (v2 := .slice h'.aL D2.loo.length h'.cL) (v3 := .bool D2.lost) hz
          have hBs := Ns.below4 (v0 := .slice h'.aN D2.now.length h'.cN) (v1 := .slice h'.aS D2.sure.length h'.cS) (v2 := .slice h'.aL D2.loo.length h'.cL) (v3 := .bool D2.lost) Hl hbzW
          rw [hws] at hz2 hzo hzs hBs
          have hxd2 := hxd.keepBut (fun k _ hk => hzo k (fun e => hnz (e ▸ hk))) (by rw [hzs]; exact Nat.le_refl _)
          unfold Ns.st4 at hws; rw [hws]; clear hws
          refine hK.out _ _ hBs fun Hl => ?_; clear hK K
          refine Tm 23 ?p1 ?v1 Hl ?r1
          simp only [Act.put, Pa, Pb, Pc]
          refine wpAnyH_done (by kernel_rfl) ?_ _
          clear HS
          go_wp2_with fail
          go_meet
          case rel => exact ⟨bz, h', rfl, rfl, hz2, hxd2, hbzW, hnw3, Hl⟩
        case sa =>
         intro K hK; go_simp
         obtain ⟨wa5a, hwa⟩ := Nq (v5.alloc (.cells #[.slice none 0 0, .slice none 0 0, .slice none 0 0, .bool false] 34))
         rw [hwa]
         have hba : Below v5.heap.size v5 wa5a := by rw [← hwa]; exact bel1 _ _
         have hz : wa5a.heap[v5.heap.size]? = some (.cells #[.slice none 0 0, .slice none 0 0, .slice none 0 0, .bool false] 34 (0, 0)) := by rw [← hwa]; exact heap_alloc_last _ _
         obtain ⟨bz, hbz⟩ := Nq (v5.heap.size)
         rw [hbz] at hz ⊢
         have hbzW : w3.heap.size ≤ bz := by rw [← hbz]; exact Hl.size
         have hbzc : v5.heap.size ≤ bz := by rw [← hbz]; exact Nat.le_refl _
         clear hwa hbz
         have Ba5a := Hl.trans (hba.mono Hl.size)
         refine hK.out _ _ Ba5a fun Hl => ?_; clear hK K
         refine Rd 11 ?p2 ?s2
         intro K hK; go_simp
         refine (half_any H.h D n _ HN.out HN8.out HN4.out).mono ?_; rintro e v11 ⟨rfl, hb11⟩
         have B11 := Hl.trans (hb11.mono Hl.size)
         have hz := Br hz hb11
         refine hK.out _ _ B11 fun Hl => ?_; clear hK K
         refine Tm 13 ?p3 ?v3 Hl ?r3
         refine Tm 14 ?p4 ?v4 Hl ?r4
         simp only [Act.put, Pa, Pb, Pc]
         refine Rd 15 ?p5 ?s5
         intro K hK; go_simp; rw [HZA.out]
         refine (Ns.refZeros_any _ HZB.out _).mono ?_; rintro e v15 ⟨rfl, hb15⟩
         have B15 := Hl.trans (hb15.mono Hl.size)
         have hz := Br hz hb15
         refine hK.out _ _ B15 fun Hl => ?_; clear hK K
         refine Tm 16 ?p6 ?v6 Hl ?r6
         simp only [Act.put, Pa, Pb, Pc]
         refine Rd 17 ?p7 ?s7
         intro K hK; go_simp; rw [HA1.out]; rw [HTX.out]
         refine (Ns.rwrite_any H.h D n _ _ v15 HX.out.rr.ok HSZ.out (HX.out.xd.keep (Bu HBW.out Hl Lr))).mono ?_; rintro e v17 ⟨h', rfl, hxd, hnw, hb17⟩
         have hnw3 : ∀ k, h'.blk k → H.h.blk k ∨ w3.heap.size ≤ k := fun k hk => (hnw k hk).imp id (fun h => Nat.le_trans Hl.size h)
         rw [HWC.out]; rw [HD2.out] at hxd ⊢
         simp only [Ns.wrV, Ns.Hd.vals]
         have B17 := Hl.trans (hb17.mono Hl.size)
         have hnz : ¬ h'.blk bz := fun e => by
          rcases hnw bz e with e | e
          ·have := (HX.out.xd.lt bz e); have := HBW.out.size; omega
          ·have := (Array.getElem?_eq_some_iff.1 hz).1; omega
         have hz := Br hz hb17
         obtain ⟨⟨k0, k1, k2, k3⟩, kf⟩ := row4 hz
         have kf0 := kf 0
         have kf1 := kf 1
         have kf2 := kf 2
         have kf3 := kf 3
         refine hK.out _ _ B17 fun Hl => ?_; clear hK K
         refine Tm 18 ?p8 ?v8 Hl ?r8
         refine Tm 19 ?p9 ?v9 Hl ?r9
         refine Tm 20 ?pBA ?vBA Hl ?rBA
         simp only [Act.put, Pa, Pb, Pc]
         refine Rd 22 ?pBB ?sBB
         intro K hK; go_simp
         obtain ⟨ws521111517s, hws⟩ := Nq (Ns.st4 v17 bz (.slice h'.aN D2.now.length h'.cN) (.slice h'.aS D2.sure.length h'.cS) (.slice h'.aL D2.loo.length h'.cL) (.bool D2.lost))
         obtain ⟨hz2, hzo, hzs⟩ := Ns.put4 (v0 := .slice h'.aN D2.now.length h'.cN) (v1 := .slice h'.aS D2.sure.length h'.cS) (v2 := .slice h'.aL D2.loo.length h'.cL) (v3 := .bool D2.lost) hz
         have hBs := Ns.below4 (v0 := .slice h'.aN D2.now.length h'.cN) (v1 := .slice h'.aS D2.sure.length h'.cS) (v2 := .slice h'.aL D2.loo.length h'.cL) (v3 := .bool D2.lost) Hl hbzW
         rw [hws] at hz2 hzo hzs hBs
         have hxd2 := hxd.keepBut (fun k _ hk => hzo k (fun e => hnz (e ▸ hk))) (by rw [hzs]; exact Nat.le_refl _)
         unfold Ns.st4 at hws; rw [hws]; clear hws
         refine hK.out _ _ hBs fun Hl => ?_; clear hK K
         refine Tm 23 ?pBC ?vBC Hl ?rBC
         simp only [Act.put, Pa, Pb, Pc]
         refine wpAnyH_done (by kernel_rfl) ?_ _
         clear HS
         go_wp2_with fail
         go_meet
         case rel => exact ⟨bz, h', rfl, rfl, hz2, hxd2, hbzW, hnw3, Hl⟩
       case sW =>
        intro K hK; go_simp
        obtain ⟨waa, hwa⟩ := Nq (wdy.alloc (.cells #[.slice none 0 0, .slice none 0 0, .slice none 0 0, .bool false] 34))
        rw [hwa]
        have hba : Below wdy.heap.size wdy waa := by rw [← hwa]; exact bel1 _ _
        have hz : waa.heap[wdy.heap.size]? = some (.cells #[.slice none 0 0, .slice none 0 0, .slice none 0 0, .bool false] 34 (0, 0)) := by rw [← hwa]; exact heap_alloc_last _ _
        obtain ⟨bz, hbz⟩ := Nq (wdy.heap.size)
        rw [hbz] at hz ⊢
        have hbzW : w3.heap.size ≤ bz := by rw [← hbz]; exact Hl.size
        have hbzc : wdy.heap.size ≤ bz := by rw [← hbz]; exact Nat.le_refl _
        clear hwa hbz
        have Baa := Hl.trans (hba.mono Hl.size)
        refine hK.out _ _ Baa fun Hl => ?_; clear hK K
        refine Rd 5 ?pBD ?sBD
        intro K hK; go_simp
        refine (half_any H.h D n _ HN.out HN8.out HN4.out).mono ?_; rintro e v5 ⟨rfl, hb5⟩
        have B5 := Hl.trans (hb5.mono Hl.size)
        have hz := Br hz hb5
        refine hK.out _ _ B5 fun Hl => ?_; clear hK K
        refine Tm 6 ?pBE ?vBE Hl ?rBE
        refine Tm 7 ?pBF ?vBF Hl ?rBF
        simp only [Act.put, Pa, Pb, Pc]
        refine Rd 11 ?pBG ?sBG
        intro K hK; go_simp
        refine (half_any H.h D n _ HN.out HN8.out HN4.out).mono ?_; rintro e v11 ⟨rfl, hb11⟩
        have B11 := Hl.trans (hb11.mono Hl.size)
        have hz := Br hz hb11
        refine hK.out _ _ B11 fun Hl => ?_; clear hK K
        refine Tm 13 ?pBH ?vBH Hl ?rBH
        refine Tm 14 ?pBI ?vBI Hl ?rBI
        simp only [Act.put, Pa, Pb, Pc]
        refine Rd 15 ?pBJ ?sBJ
        intro K hK; go_simp; rw [HZA.out]
        refine (Ns.refZeros_any _ HZB.out _).mono ?_; rintro e v15 ⟨rfl, hb15⟩
        have B15 := Hl.trans (hb15.mono Hl.size)
        have hz := Br hz hb15
        refine hK.out _ _ B15 fun Hl => ?_; clear hK K
        refine Tm 16 ?pBK ?vBK Hl ?rBK
        simp only [Act.put, Pa, Pb, Pc]
        refine Rd 17 ?pBL ?sBL
        intro K hK; go_simp; rw [HA1.out]; rw [HTX.out]
        refine (Ns.rwrite_any H.h D n _ _ v15 HX.out.rr.ok HSZ.out (HX.out.xd.keep (Bu HBW.out Hl Lr))).mono ?_; rintro e v17 ⟨h', rfl, hxd, hnw, hb17⟩
        have hnw3 : ∀ k, h'.blk k → H.h.blk k ∨ w3.heap.size ≤ k := fun k hk => (hnw k hk).imp id (fun h => Nat.le_trans Hl.size h)
        rw [HWC.out]; rw [HD2.out] at hxd ⊢
        simp only [Ns.wrV, Ns.Hd.vals]
        have B17 := Hl.trans (hb17.mono Hl.size)
        have hnz : ¬ h'.blk bz := fun e => by
         rcases hnw bz e with e | e
         ·have := (HX.out.xd.lt bz e); have := HBW.out.size; omega
         ·have := (Array.getElem?_eq_some_iff.1 hz).1; omega
        have hz := Br hz hb17
        obtain ⟨⟨k0, k1, k2, k3⟩, kf⟩ := row4 hz
        have kf0 := kf 0
        have kf1 := kf 1
        have kf2 := kf 2
        have kf3 := kf 3
        refine hK.out _ _ B17 fun Hl => ?_; clear hK K
        refine Tm 18 ?pBM ?vBM Hl ?rBM
        refine Tm 19 ?pBN ?vBN Hl ?rBN
        refine Tm 20 ?pBO ?vBO Hl ?rBO
        simp only [Act.put, Pa, Pb, Pc]
        refine Rd 22 ?pBP ?sBP
        intro K hK; go_simp
        obtain ⟨ws215111517s, hws⟩ := Nq (Ns.st4 v17 bz (.slice h'.aN D2.now.length h'.cN) (.slice h'.aS D2.sure.length h'.cS) (.slice h'.aL D2.loo.length h'.cL) (.bool D2.lost))
        obtain ⟨hz2, hzo, hzs⟩ := Ns.put4 (v0 := .slice h'.aN D2.now.length h'.cN) (v1 := .slice h'.aS D2.sure.length h'.cS) (v2 := .slice h'.aL D2.loo.length h'.cL) (v3 := .bool D2.lost) hz
        have hBs := Ns.below4 (v0 := .slice h'.aN D2.now.length h'.cN) (v1 := .slice h'.aS D2.sure.length h'.cS) (v2 := .slice h'.aL D2.loo.length h'.cL) (v3 := .bool D2.lost) Hl hbzW
        rw [hws] at hz2 hzo hzs hBs
        have hxd2 := hxd.keepBut (fun k _ hk => hzo k (fun e => hnz (e ▸ hk))) (by rw [hzs]; exact Nat.le_refl _)
        unfold Ns.st4 at hws; rw [hws]; clear hws
        refine hK.out _ _ hBs fun Hl => ?_; clear hK K
        refine Tm 23 ?pBQ ?vBQ Hl ?rBQ
        simp only [Act.put, Pa, Pb, Pc]
        refine wpAnyH_done (by kernel_rfl) ?_ _
        clear HS
        go_wp2_with fail
        go_meet
        case rel => exact ⟨bz, h', rfl, rfl, hz2, hxd2, hbzW, hnw3, Hl⟩
      case rest =>
       obtain ⟨bz, h1, rfl, rfl, hz1, hxd1, hbz1, hnw1, hbc1⟩ := hcut
       have HC4 := Hf (HCS.out.keep hbc1)
       have hsz3 := HCS.out.sz
       have AP1 : Hid (∀ k, (Hx.mk h1 H.ad H.c).blk k → k ≠ w.heap.size ∧ k ≠ w.heap.size + 1 ∧ (H.blk k ∨ w.heap.size ≤ k)) := Hf fun k hk => by
        rcases hk with hk | hk
        ·rcases hnw1 k hk with h | h
         ·have := HX.out.xd.lt k h; exact ⟨by omega, by omega, .inl (.inl h)⟩
         ·exact ⟨by omega, by omega, .inr (by omega)⟩
        ·have := HX.out.lt k hk; exact ⟨by omega, by omega, .inl (.inr hk)⟩
       obtain ⟨⟨y0, y1, y2, y3⟩, _⟩ := row4 hz1
       clear hz1 hnw1 HS
       obtain ⟨⟨z0, z1, z2, z3, _, _, _, _, _, _, _, _, _⟩, zf⟩ := rowD HC4.out.r0
       have zf0 := zf 0
       have zf1 := zf 1
       have zf2 := zf 2
       have zf3 := zf 3
       have cs1 := HC4.out.dev h1 D2
       obtain ⟨V1, hV1⟩ := Nq (Ns.st4 wc w.heap.size (.slice h1.aN D2.now.length h1.cN) (.slice h1.aS D2.sure.length h1.cS) (.slice h1.aL D2.loo.length h1.cL) (.bool D2.lost))
       have hO : ∀ j, j ≠ w.heap.size → V1.heap[j]? = wc.heap[j]? := fun j hj => by
        rw [← hV1]; unfold Ns.st4; rw [heap_setCell_other _ ⟨w.heap.size, 3, none⟩ _ _ hj, heap_setCell_other _ ⟨w.heap.size, 2, none⟩ _ _ hj, heap_setCell_other _ ⟨w.heap.size, 1, none⟩ _ _ hj, heap_setCell_other _ ⟨w.heap.size, 0, none⟩ _ _ hj]
       have hS : V1.heap.size = wc.heap.size := by rw [← hV1]; simp [Ns.st4]
       rw [hV1] at cs1
       have xx1 : XX V1 ⟨h1, H.ad, H.c⟩ D2 n (w1P n P x) x := by
        refine ⟨(hxd1).keepBut (fun j _ hj => hO j ((fun k hb => (⟨(AP1.out k hb).1, (AP1.out k hb).2.1⟩ : k ≠ w.heap.size ∧ k ≠ w.heap.size + 1)) j (.inl hj)).1) (by rw [hS]; exact Nat.le_refl _), HRR2.out, ?_, fun j hj => ?_⟩
        ·exact (HX.out.xl.keep HC4.out.bel).keepBut (fun j _ hj => hO j (by have := HX.out.lt j hj; omega))
        ·have := HX.out.lt j hj; have := HC4.out.sz; rw [hS]; omega
       unfold Ns.st4 at hV1
       have HV1 := Hf hV1
       have CS1 := Hf cs1
       have XX1 := Hf xx1
       clear hO hS zf hV1 cs1 xx1
       go_upto_region 21 with fail
       rw [HV1.out]; clear HV1 z0 z1 z2 z3 zf0 zf1 zf2 zf3; clear y0 y1 y2 y3
       have GC1 := Hf (HG.out.cut1 HFIT.out)
       by_cases h1s : steps = 1
       ·have HSS : Hid (ccs steps = true) := Hf (ccs_yes (k := 1) (by omega) (by simpa using h1s))
        have hs1 : (steps == 1) = true := by simpa using h1s
        clear h1s
        obtain ⟨⟨_, _, _, _, _, _, _, _, _, _, _, _, z12⟩, zf⟩ := rowD CS1.out.r0
        have zf12 := zf 12
        obtain ⟨W9, hW9⟩ := Nq (V1.setCell ⟨w.heap.size, 12, none⟩ (.bool true))
        have hc9 := CS1.out.cut
        have hx9 := (XX1.out).cut.keepBut (w' := V1.setCell ⟨w.heap.size, 12, none⟩ (.bool true)) (fun k hk hb => heap_setCell_other _ ⟨w.heap.size, 12, none⟩ _ _ ((fun k hb => (⟨(AP1.out k hb).1, (AP1.out k hb).2.1⟩ : k ≠ w.heap.size ∧ k ≠ w.heap.size + 1)) k hb).1) (by simp)
        rw [hW9] at hc9 hx9
        obtain ⟨hst, hrow, hfin⟩ := CS.put (H := H) (x := x) (steps := steps) hc9.r1 hc9.bel hx9 (fun k hb => ((fun k hb => (⟨(AP1.out k hb).1, (AP1.out k hb).2.1⟩ : k ≠ w.heap.size ∧ k ≠ w.heap.size + 1)) k hb).2) GC1.out (fun k hb => (AP1.out k hb).2.2) (c_part HCT.out HCR.out HSS.out)
        have hld := load41_row hc9.r0
        have HFIN := Hf hfin
        have HROW := Hf hrow
        have HW9 := Hf hW9
        clear hc9 hx9 hrow hfin hW9 zf
        go_upto_region 23 with fail
        rw [HW9.out]; go_wp2
        refine bodyPost_ret (v := .tuple #[.agg (dvv ⟨h1, H.ad, H.c⟩ D2 (cutX x)), .int .i64 16]) ?_ rfl HFIN.out
        exact res41_2 f29_res _ _ (w.heap.size + 1) _ _ _ rfl HROW.out
       ·have hs1 : (steps == 1) = false := by simpa using h1s
        have HH1 := Hf h1s
        clear h1s
        have hfl := Ns.rflush_any h1 D2 V1 (by rw [HRR2.out.ok.l1]; exact HRR2.out.ok.n1.2) XX1.out.xd
        obtain ⟨D3, hD3⟩ := Nq (Ns.M.dflush D2)
        have HRR3 := Hf (Ns.M.rr_flush HRR2.out)
        rw [hD3] at hfl HRR3; unfold Ns.Hd.vals at hfl
        obtain ⟨⟨z0, z1, z2, z3, _, _, _, _, _, _, _, _, _⟩, zf⟩ := rowD CS1.out.r0
        clear zf hD3
        go_wp2_with fail
        refine hfl.mono ?_; rintro e w5 ⟨h2, rfl, hxd2, hnw2, hb5⟩
        simp only [Ns.Hd.vals]
        have HC5 := Hf (CS1.out.keep hb5)
        have AP2 : Hid (∀ k, (Hx.mk h2 H.ad H.c).blk k → k ≠ w.heap.size ∧ k ≠ w.heap.size + 1 ∧ (H.blk k ∨ w.heap.size ≤ k)) := Hf fun k hk => by
         rcases hk with hk | hk
         ·rcases hnw2 k hk with h | h
          ·exact AP1.out k (.inl h)
          ·have := CS1.out.sz; exact ⟨by omega, by omega, .inr (by omega)⟩
         ·exact AP1.out k (.inr hk)
        clear hfl hnw2 hb5 z0 z1 z2 z3
        obtain ⟨⟨z0, z1, z2, z3, _, _, _, _, _, _, _, _, _⟩, zf⟩ := rowD HC5.out.r0
        have zf0 := zf 0
        have zf1 := zf 1
        have zf2 := zf 2
        have zf3 := zf 3
        have cs2 := HC5.out.dev h2 D3
        obtain ⟨V2, hV2⟩ := Nq (Ns.st4 w5 w.heap.size (.slice h2.aN D3.now.length h2.cN) (.slice h2.aS D3.sure.length h2.cS) (.slice h2.aL D3.loo.length h2.cL) (.bool D3.lost))
        have hO : ∀ j, j ≠ w.heap.size → V2.heap[j]? = w5.heap[j]? := fun j hj => by
         rw [← hV2]; unfold Ns.st4; rw [heap_setCell_other _ ⟨w.heap.size, 3, none⟩ _ _ hj, heap_setCell_other _ ⟨w.heap.size, 2, none⟩ _ _ hj, heap_setCell_other _ ⟨w.heap.size, 1, none⟩ _ _ hj, heap_setCell_other _ ⟨w.heap.size, 0, none⟩ _ _ hj]
        have hS : V2.heap.size = w5.heap.size := by rw [← hV2]; simp [Ns.st4]
        rw [hV2] at cs2
        have xx2 : XX V2 ⟨h2, H.ad, H.c⟩ D3 n (Ns.M.flush (w1P n P x)) x := by
         refine ⟨(hxd2).keepBut (fun j _ hj => hO j ((fun k hb => (⟨(AP2.out k hb).1, (AP2.out k hb).2.1⟩ : k ≠ w.heap.size ∧ k ≠ w.heap.size + 1)) j (.inl hj)).1) (by rw [hS]; exact Nat.le_refl _), HRR3.out, ?_, fun j hj => ?_⟩
         ·exact (HX.out.xl.keep HC5.out.bel).keepBut (fun j _ hj => hO j (by have := HX.out.lt j hj; omega))
         ·have := HX.out.lt j hj; have := HC5.out.sz; rw [hS]; omega
        unfold Ns.st4 at hV2
        have HV2 := Hf hV2
        have CS2 := Hf cs2
        have XX2 := Hf xx2
        clear hO hS zf hV2 cs2 xx2
        go_upto_region 25 with fail
        rw [HV2.out]; clear HV2 z0 z1 z2 z3 zf0 zf1 zf2 zf3
        have GC2 := Hf GC1.out.flu
        by_cases h2s : steps = 2
        ·have HSS : Hid (ccs steps = true) := Hf (ccs_yes (k := 2) (by omega) (by simpa using h2s))
         have hs2 : (steps == 2) = true := by simpa using h2s
         clear h2s
         obtain ⟨⟨_, _, _, _, _, _, _, _, _, _, _, _, z12⟩, zf⟩ := rowD CS2.out.r0
         have zf12 := zf 12
         obtain ⟨W9, hW9⟩ := Nq (V2.setCell ⟨w.heap.size, 12, none⟩ (.bool true))
         have hc9 := CS2.out.cut
         have hx9 := (XX2.out).cut.keepBut (w' := V2.setCell ⟨w.heap.size, 12, none⟩ (.bool true)) (fun k hk hb => heap_setCell_other _ ⟨w.heap.size, 12, none⟩ _ _ ((fun k hb => (⟨(AP2.out k hb).1, (AP2.out k hb).2.1⟩ : k ≠ w.heap.size ∧ k ≠ w.heap.size + 1)) k hb).1) (by simp)
         rw [hW9] at hc9 hx9
         obtain ⟨hst, hrow, hfin⟩ := CS.put (H := H) (x := x) (steps := steps) hc9.r1 hc9.bel hx9 (fun k hb => ((fun k hb => (⟨(AP2.out k hb).1, (AP2.out k hb).2.1⟩ : k ≠ w.heap.size ∧ k ≠ w.heap.size + 1)) k hb).2) GC2.out (fun k hb => (AP2.out k hb).2.2) (c_part HCT.out HCR.out HSS.out)
         have hld := load41_row hc9.r0
         have HFIN := Hf hfin
         have HROW := Hf hrow
         have HW9 := Hf hW9
         clear hc9 hx9 hrow hfin hW9 zf
         go_upto_region 27 with fail
         rw [HW9.out]; go_wp2
         refine bodyPost_ret (v := .tuple #[.agg (dvv ⟨h2, H.ad, H.c⟩ D3 (cutX x)), .int .i64 16]) ?_ rfl HFIN.out
         exact res41_2 f29_res _ _ (w.heap.size + 1) _ _ _ rfl HROW.out
        ·have hs2 : (steps == 2) = false := by simpa using h2s
         have HSS : Hid (ccs steps = false) := Hf (ccs_no fun k hk => by
          have e0 := HH0.out
          have e1 := HH1.out
          rcases (show k = 0 ∨ k = 1 ∨ k = 2 by omega) with rfl | rfl | rfl
          ·exact e0
          ·exact e1
          ·exact h2s)
         clear h2s
         have hsw : ∀ W, Below V2.heap.size V2 W → Calls Tryz.prog 80 #[.agg (h2.vals D3), .string (ofL [UInt8.ofNat (1 - x.ar)])] W fun e w' => ∃ h' D', e = .returned (.tuple #[.agg (h'.vals D'), .int .i64 0]) ∧ XD w' h' D' ∧ RR n (Ns.nxN (Ns.M.flush (w1P n P x)) [UInt8.ofNat (1 - x.ar)]) false D' ∧ (∀ k, h'.blk k → h2.blk k ∨ W.heap.size ≤ k) ∧ Below W.heap.size W w' := fun W hW => by
          have := dswrite_any (w := W) (P := Ns.M.flush (w1P n P x)) (XX2.out.xd.keep hW) HRR3.out GC2.out.len GC2.out.ok HN8.out (ofL [UInt8.ofNat (1 - x.ar)]) (by rw [Ns.M.ofL_size]; simp) (by rw [GC2.out.st]; exact HEP.out)
          rw [Ns.ofL_data] at this
          exact this
         unfold Ns.Hd.vals at hsw
         obtain ⟨o, ho⟩ := Nq (1 - x.ar)
         have ho1 : o ≤ 1 := by omega
         have hcv := Nc.one_convert V2 o (by omega)
         have h256 : (o : Int) % 256 = o := by omega
         have HGD := Hf (HG.out.done HFIT.out HEP.out)
         rw [ho] at hsw HGD ⊢
         have HOO := Hf ho
         have HBA := Hf (fun ob => bel1 V2 ob)
         obtain ⟨⟨z0, z1, z2, z3, _, _, _, _, _, _, _, _, _⟩, zf⟩ := rowD CS2.out.r0
         clear zf ho
         go_wp2_with fail
         refine (hsw _ (HBA.out _)).mono ?_; rintro e w7 ⟨h3, D4, rfl, hxd3, rr3, hnw3, hb7⟩
         obtain ⟨W8, HW8⟩ := Nh (w7.alloc (.cells #[.slice h3.aN D4.now.length h3.cN, .slice h3.aS D4.sure.length h3.cS, .slice h3.aL D4.loo.length h3.cL, .bool D4.lost] 34))
         have hb8 : Below w7.heap.size w7 W8 := by rw [← HW8.out]; exact bel1 w7 _
         have hr8 : W8.heap[w7.heap.size]? = some (.cells #[.slice h3.aN D4.now.length h3.cN, .slice h3.aS D4.sure.length h3.cS, .slice h3.aL D4.loo.length h3.cL, .bool D4.lost] 34 (0, 0)) := by rw [← HW8.out]; exact heap_alloc_last w7 _
         obtain ⟨b8, hb8e⟩ := Nq (w7.heap.size)
         rw [hb8e] at hr8
         have hB28 : Below V2.heap.size V2 W8 := Bu (HBA.out _) (Bu hb7 hb8 Lr) Lr
         have hC8 := CS2.out.keep hB28
         have AP3 : ∀ k, (Hx.mk h3 H.ad H.c).blk k → k ≠ w.heap.size ∧ k ≠ w.heap.size + 1 ∧ (H.blk k ∨ w.heap.size ≤ k) := fun k hk => by
          rcases hk with hk | hk
          ·rcases hnw3 k hk with h | h
           ·exact AP2.out k (.inl h)
           ·have := CS2.out.sz; rw [World.size_alloc] at h; exact ⟨by omega, by omega, .inr (by omega)⟩
          ·exact AP2.out k (.inr hk)
         have hx8 : XX W8 ⟨h3, H.ad, H.c⟩ D4 n (Ns.nxN (Ns.M.flush (w1P n P x)) [UInt8.ofNat o]) (cmpX x) := ⟨hxd3.keep hb8, rr3, XX2.out.xl.keep hB28, fun j hj => Nat.lt_of_lt_of_le (XX2.out.lt j hj) hB28.size⟩
         obtain ⟨hst, hrow, hfin⟩ := CS.put (H := H) (x := x) (steps := steps) hC8.r1 hC8.bel hx8 (fun k hb => (AP3 k hb).2.1) HGD.out (fun k hb => (AP3 k hb).2.2) (c_done HCT.out HCR.out HSS.out)
         obtain ⟨⟨y0, y1, y2, y3⟩, _⟩ := row4 hr8
         obtain ⟨⟨_, _, _, _, _, z5, _, _, z8, z9, z10, z11, _⟩, _⟩ := rowD hC8.r0
         have hdq : dvv ⟨h3, H.ad, H.c⟩ D4 (cmpX x) = dvv ⟨h3, H.ad, H.c⟩ D4 ⟨o, x.ep + 1, F.length, Z, false, x.a⟩ := by
          unfold cmpX; rw [HOO.out, HF.out, HZE.out]
         have hst2 : (st41 ⟨w.heap.size + 1, 0, none⟩ (⟨((((((((((((Z13.toList.set 0 (.slice h3.aN D4.now.length h3.cN)).set 1 (.slice h3.aS D4.sure.length h3.cS)).set 2 (.slice h3.aL D4.loo.length h3.cL)).set 3 (.bool D4.lost)).set 4 (.int .i64 o)).set 5 (.int .i64 ((x.ep : Int) + 1))).set 6 (.int .i64 Z)).set 7 (.int .i64 F.length)).set 8 (.int .i64 x.a.p.i)).set 9 (.int .i64 x.a.p.t)).set 10 (.int .i64 x.a.base)).set 11 (.slice H.ad x.a.l.length H.c))⟩ : Array Value)).run Tryz.prog W8 = .ok () (W8.setRow (w.heap.size + 1) (dvv ⟨h3, H.ad, H.c⟩ D4 (cmpX x))) := by
          rw [hdq] at hst ⊢
          exact hst
         clear hst hdq
         have HFIN := Hf hfin
         have HROW := Hf hrow
         have HBE := Hf hb8e
         clear hsw hxd3 rr3 hnw3 hb7 hb8 hr8 hb8e hB28 hC8 AP3 hx8 hrow hfin z0 z1 z2 z3
         go_upto_region 29 with fail
         rw [HW8.out]
         try rw [HBE.out]
         clear HW8
         go_upto_region 32 with fail
         go_wp2
         refine bodyPost_ret (v := .tuple #[.agg (dvv ⟨h3, H.ad, H.c⟩ D4 (cmpX x)), .int .i64 0]) ?_ rfl HFIN.out
         exact res41_2 f29_res _ _ (w.heap.size + 1) _ _ _ rfl HROW.out
    ·have hgt : decide (hf n < Z) = true := decide_eq_true (by omega)
     have HCR : Hid (ccr n x = false) := Hf (decide_eq_false (by rw [HF.out, HZE.out]; exact hfit))
     obtain ⟨hst, hrow, hfin⟩ := CS.put (H := H) (x := x) (steps := steps) HCS.out.r1 HCS.out.bel (HX.out.keep HCS.out.bel) (fun k hb => by have := HAP.out k hb; omega) HG.out (New.refl _ _) (c_full HCT.out HCR.out)
     have hld := load41_row HCS.out.r0
     have HFIN := Hf hfin
     have HROW := Hf hrow
     clear hrow hfin; go_wp2
     refine bodyPost_ret (v := .tuple #[.agg (dvv H D x), .int .i64 5]) ?_ rfl HFIN.out
     exact res41_2 f29_res _ _ (w.heap.size + 1) _ _ _ rfl HROW.out
end
end Go.Proofs.YtlnedgjikkhplaaGreat.Du
