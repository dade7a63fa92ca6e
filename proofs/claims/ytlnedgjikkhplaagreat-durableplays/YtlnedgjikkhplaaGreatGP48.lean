import Derived.Test.YtlnedgjikkhplaaGreatGP47
set_option maxRecDepth 100000
set_option maxHeartbeats 8000000
set_option linter.unusedVariables false
set_option linter.unusedSimpArgs false
namespace Go.Proofs.YtlnedgjikkhplaaGreat.Du
open Go.RowKit
open Na (Fr AS XL vl bV vV Hf bel1 bel2 Bu Br row2 row4 blk OwnL AtL)
open Na.M (E V S S0)
open Ns (Hd XD)
open Ns.M (DD RR ofL)
theorem plays_walk (n0 : Int) (al : Option Addr) (cap : Nat) (l : List Du.D) (w : World) (hn0 : (Lit.int .i64 n0).wf = true) (hm : l.length ≤ maxLen) (hat : AtL dl w al l) (hok : ∀ d ∈ l, d.ok) :
  Calls Tryz.prog 3 #[.int .i64 n0, .slice al l.length cap] w fun e w' => e = .returned (.bool true) ∧ Below w.heap.size w w' := by
 have HAT := Hf hat
 have HW0 := Hf (Below.refl w.heap.size w)
 have hfew := few_any n0 al cap l w hm hat hok
 have HOKS := Hf hok
 clear hat hok hm hn0
 go_enter Tryz.func3, Tryz.ntmps3
 go_wp2_with fail
 refine hfew.mono ?_; rintro e w1 (⟨rfl, rfl⟩ | ⟨rfl, hfw, rfl⟩)
 ·clear hfew
  go_wp2_with fail
  refine (awake_any _).mono ?_; rintro e w8 ⟨rfl, b8⟩
  have HB8 := Hf b8
  clear b8; go_wp2
  go_ret
  exact ⟨rfl, Bu HW0.out HB8.out Lr⟩
 ·have HFW := Hf hfw
  have hl25 : l.length ≤ 25 := hfw.l
  have hn3 := hfw.n
  clear hfew hfw
  have hnw := Ns.newD n0 w1
  have hcn := Ns.cntOf_le n0
  obtain ⟨n, hnn⟩ := Nq (Ns.cntOf n0)
  have HCN := Hf hnn
  rw [hnn] at hnw hcn
  have HNS : Hid (n ≤ 1024) := Hf (by obtain ⟨_, _, h3⟩ := hcn; omega)
  clear hnn
  obtain ⟨hcn1, hcn2, _⟩ := hcn
  go_wp2_with fail
  refine hnw.mono ?_; rintro e w2 ⟨db, FD1, rfl, ds2⟩
  clear hnw hn3
  by_cases hsm : n < 10
  ·skip
   have ho := open_small ds2 hsm
   have HD2 := Hf ds2
   have hln : (Ns.newDD n).now.length < 10 := by simp [Ns.newDD]; exact hsm
   have hrn := fun W => Ns.rnew_any n0 W
   rw [HCN.out] at hrn; clear ds2 hsm hcn1 hcn2
   go_wp2_with fail
   refine ho.mono ?_; rintro e w3 ⟨rfl, hw3⟩
   obtain rfl := hw3.symm
   clear ho hw3
   go_wp2_with fail
   refine (hrn _).mono ?_; rintro e w4 ⟨h0, rfl, xd4, _, hb4⟩
   have hos := fun W => dopen_small h0 (Ns.newDD n) W hln
   have HB4 := Hf (Bu HD2.out.bel hb4 Lr)
   clear hrn xd4 hb4
   go_wp2_with fail
   refine (hos _).mono ?_; rintro e w5 ⟨rfl, hb5⟩
   obtain ⟨W6, hst, hb6, hr6⟩ := box41 w5 HZ DZ X0
   have HB6 := Hf (Bu HB4.out (Bu hb5 hb6 Lr) Lr)
   clear hos hb5 hb6 hr6; go_wp2
   go_loopw [10] (fun i wr => i = .int .i64 0 ∧ wr = W6) (fun _ _ => 0)
   case atStart => exact ⟨rfl, rfl⟩
   case round =>
    obtain ⟨rfl, hwr⟩ := hrel
    rw [hwr]; clear hwr
    have hB0 := Hf (Bu HW0.out HB6.out Lr)
    by_cases hl0 : 0 < l.length
    ·have hl1 : (0 : Int) < (l.length : Int) := by omega
     go_wp2_with fail
     refine (awake_any _).mono ?_; rintro e w8 ⟨rfl, b8⟩
     have HB8 := Hf b8
     clear b8; go_wp2
     go_ret
     exact ⟨rfl, Bu hB0.out HB8.out Lr⟩
    ·have hl1 : ¬ (0 : Int) < (l.length : Int) := by omega
     go_wp2_with fail
     refine (awake_any _).mono ?_; rintro e w8 ⟨rfl, b8⟩
     have HB8 := Hf b8
     clear b8; go_wp2
     go_ret
     exact ⟨rfl, Bu hB0.out HB8.out Lr⟩
  ·skip
   have gd0 := Gd.new n (by omega) hcn2
   have ho := open_any ds2 gd0
   have hrr := Ns.newDD_rr n ⟨by omega, hcn2⟩
   have hrn := fun W => Ns.rnew_any n0 W
   rw [HCN.out] at hrn
   have HG0 := Hf gd0
   clear gd0 ds2 hsm hcn1 hcn2
   go_wp2_with fail
   refine ho.mono ?_; rintro e w3 ⟨b0, ab0, FA0, rfl, du0, hb0, _, _⟩
   have HDU := Hf du0
   clear ho du0 hb0
   go_wp2_with fail
   refine (hrn _).mono ?_; rintro e w4 ⟨h0, rfl, xd4, hnb4, hb4⟩
   have HX4 := Hf xd4
   have hdo := dopen_any xd4 hrr HG0.out
   have HDU4 := Hf (HDU.out.keep hb4)
   have HNB : Hid (∀ k, h0.blk k → w3.heap.size ≤ k) := Hf hnb4
   have H34 := Hf hb4.size
   have HMI := Hf HDU.out.mine
   clear hrn xd4 hb4 hnb4 HDU
   go_wp2_with fail
   refine hdo.mono ?_; rintro e w5 ⟨a5, c5, rfl, xx5, hnb5, hb5⟩
   obtain ⟨W6, hst, hb6, hr6⟩ := box41 w5 ⟨h0, a5, c5⟩ (Ns.newDD n) { X0 with cut := false }
   obtain ⟨B, hBe⟩ := Nq (w5.heap.size)
   rw [hBe] at hst hr6
   have hs5 := hb5.size
   have HRL0 : Hid (RI w1 db n B b0 X0 W6) := Hf (by
    have hm : ∀ k, fpd b0 FA0 FD1 k → k < w3.heap.size := fun k hk => (HMI.out k hk).2
    have h34 := H34.out
    refine ⟨FA0, FD1, ab0, _, _, ⟨h0, a5, c5⟩, _, _, _, ⟨⟨(HDU4.out.keep hb5).keep hb6, HG0.out, xx5.keep hb6, HG0.out, fun k hk e => ?_⟩, hr6, fun e => ?_, fun e => ?_, ?_⟩⟩
    ·have h1 := hm k e
     rcases hk with hk | hk
     ·have := HNB.out k hk; omega
     ·have := hnb5 k hk; omega
    ·have := hm _ e; omega
    ·have := xx5.blt _ e; omega
    ·have := HDU4.out.bel.size; omega)
   have HBE := Hf hBe
   clear hdo xx5 hnb5 hb5 hb6 hr6 HDU4 HNB HMI hs5 hrr
   go_upto_region 6 with fail
   try rw [HBE.out]
   clear hst HBE hBe; go_wp2
   go_loopw [6, 10] (fun pv i wr => ∃ (k b : Nat) (x : X), k ≤ l.length ∧ pv = ptr b ∧ i = .int .i64 k ∧ x.ep ≤ k ∧ RI w1 db n B b x wr) (fun _ i _ => l.length - (intOf i).toNat)
   case atStart => exact ⟨0, b0, X0, Nat.zero_le _, rfl, rfl, Nat.le_refl _, HRL0.out⟩
   case round =>
    obtain ⟨k, b, x, hk, rfl, rfl, hep, hri⟩ := hrel
    clear HRL0
    by_cases hlt : k < l.length
    ·skip
     obtain ⟨FA, FD, ab, P, rs, H, Dv, Q, qs, hrl⟩ := hri
     obtain ⟨g0, off, rfl, c0, c1, c2, c3, c4, c5, c6⟩ := getD (HAT.out.keep hrl.pp.du.bel) k hlt
     clear c0 c1 c2 c3 c4 c5 c6
     obtain ⟨d', HDE⟩ : ∃ d', Hid (l[k] = d') := ⟨_, Hf rfl⟩
     obtain ⟨c0, c1, c2, c3, c4, c5, c6⟩ := getE (HAT.out.keep hrl.pp.du.bel) k hlt d' HDE.out
     have HOKD : Hid d'.ok := Hf (by rw [← HDE.out]; exact HOKS.out _ (List.getElem_mem _))
     have HG1 : Hid (g0 < w1.heap.size) := Hf (by
      obtain ⟨y0, _⟩ := getE HAT.out k hlt d' HDE.out
      exact World.block_lt_of_cell? w1 _ y0)
     have HGF : Hid (¬ fpd b FA FD g0) := Hf fun e => by have := (hrl.pp.du.mine g0 e).1; have := HG1.out; omega
     have HG0 : Hid (g0 < wr.heap.size) := Hf (by have := hrl.pp.du.bel.size; have := HG1.out; omega)
     have HSD : Hid (SD B H Dv x g0 (off + k * 7) d' wr) := Hf ⟨hrl.rb, c0, c1, c2, c3, c4, c5, c6⟩
     have HRL := Hf hrl
     have HEPK := Hf hep
     have HEPX : Hid (x.ep < 2147483647) := Hf (by have := HFW.out.l; omega)
     have hki : (k : Int) < (l.length : Int) := by omega
     clear hrl hep
     have HDO : Hid (∀ W, Below wr.heap.size wr W → Calls Tryz.prog 13 #[ptr b, .agg (dvv H Dv x), .agg #[.int .i64 d'.k, .int .i64 d'.v.s, .int .i64 d'.v.b.i, .int .i64 d'.v.b.t, .string d'.v.v, .int .i64 d'.st, .int .u64 (d'.kp : Int)]] W (DoL w1 W FA FD b ab db n H (dox n x d'))) := Hf fun W hW => do_walk (HRL.out.pp.keep hW) d' HOKD.out HNS.out HEPX.out
     obtain ⟨x2, hx2⟩ := Nq (dox n x d')
     rw [hx2] at HDO
     have HX2 := Hf hx2
     have HEP2 : Hid (x2.ep ≤ k + 1) := Hf (by have h1 := dox_ep n x d'; rw [hx2] at h1; have h2 := HEPK.out; omega)
     have HS : Hid (∀ wq : World, SD B H Dv x g0 (off + k * 7) d' wq → (ld41 ⟨B, 0, none⟩).run Tryz.prog wq = .ok (dvv H Dv x) wq ∧ wq.cell? ⟨g0, off + k * 7, none⟩ = some (.int .i64 d'.k) ∧ wq.cell? ⟨g0, off + k * 7 + 1, none⟩ = some (.int .i64 d'.v.s) ∧ wq.cell? ⟨g0, off + k * 7 + 2, none⟩ = some (.int .i64 d'.v.b.i) ∧ wq.cell? ⟨g0, off + k * 7 + 3, none⟩ = some (.int .i64 d'.v.b.t) ∧ wq.cell? ⟨g0, off + k * 7 + 4, none⟩ = some (.string d'.v.v) ∧ wq.cell? ⟨g0, off + k * 7 + 5, none⟩ = some (.int .i64 d'.st) ∧ wq.cell? ⟨g0, off + k * 7 + 6, none⟩ = some (.int .u64 (d'.kp : Int))) := Hf fun wq h => ⟨load41_row h.1, h.2⟩
     clear hx2 c0 c1 c2 c3 c4 c5 c6
     go_upto_region 11 with fail
     go_cut [11, 12] from 55 to 64 (fun p q wx => ∃ bz FA6 FD6 P6 rs6 H6 D6 Q6 qs6, p = ptr bz ∧ q = .bool true ∧ wx.heap[bz]? = some (.cells (dvv H6 D6 x2) 41 (0, 0)) ∧ PP w1 wx FA6 FD6 b ab db n P6 x2 rs6 H6 D6 Q6 qs6 ∧ wx.heap[B]? = some (.cells (dvv H Dv x) 41 (0, 0)) ∧ ¬ fpd b FA6 FD6 B ∧ ¬ H6.blk B)
     case first =>
      refine wp_region_held_drew (S := SD B H Dv x g0 (off + k * 7) d') (by kernel_rfl) HSD.out fun Hl => ?_
      obtain ⟨wdx, hwdx⟩ := Nq (wr.drew)
      have hBwd : Below wr.heap.size wr wdx := by rw [← hwdx]; exact Below.drew (Below.refl _ _)
      rw [hwdx] at Hl ⊢; clear hwdx
      refine Tm 0 ?pA ?vA Hl ?rA
      refine Tk 1 ?pB ?vB ?yB Hl ?rB
      case yB => intro q h; obtain ⟨zl, y0, y1, y2, y3, y4, y5, y6⟩ := HS.out q h; go_simp; try with_reducible rfl
      refine Tm 2 ?pC ?vC Hl ?rC
      refine Tm 3 ?pD ?vD Hl ?rD
      refine Tm 4 ?pE ?vE Hl ?rE
      refine Tk 5 ?pF ?vF ?yF Hl ?rF
      case yF => intro q h; obtain ⟨zl, y0, y1, y2, y3, y4, y5, y6⟩ := HS.out q h; go_simp; try with_reducible rfl
      simp only [Act.put, Pa, Pb, Pc]
      refine Rn [6, 10] (Rc ?pG ?sG (Rc ?pH ?sH AllReadyH.nil))
      case sG =>
       intro K hK; go_simp
       refine (HDO.out _ hBwd).mono ?_; rintro e v6 ⟨FA6, FD6, P6, rs6, H6, D6, Q6, qs6, rfl, pp6, fr6, nw6⟩
       obtain ⟨rB6, nB6, nH6, nx6⟩ := HRL.out.did hBwd pp6 fr6 nw6
       have sd6 : SD B H Dv x g0 (off + k * 7) d' v6 := Hl.of (rB6.trans Hl.1.symm) (fr6.block g0 Hl.lt.2 HGF.out)
       refine hK.out _ _ sd6 fun Hl => ?_; clear hK K
       refine Tm 7 ?pI ?vI Hl ?rI
       refine Tm 8 ?pJ ?vJ Hl ?rJ
       refine Tm 9 ?pK ?vK Hl ?rK
       simp only [Act.put, Pa, Pb, Pc]
       refine Rd 10 ?pL ?sL
       intro K hK; go_simp
       obtain ⟨wa, hwa⟩ := Nq (v6.alloc (.cells Z13 41))
       rw [hwa]
       have hba : Below v6.heap.size v6 wa := by rw [← hwa]; exact bel1 _ _
       have hz : wa.heap[v6.heap.size]? = some (.cells Z13 41 (0, 0)) := by rw [← hwa]; exact heap_alloc_last _ _
       obtain ⟨bz, hbz⟩ := Nq (v6.heap.size)
       have hbzW : wr.heap.size ≤ bz := by rw [← hbz]; exact Nat.le_trans hBwd.size fr6.size
       have hbzE : v6.heap.size ≤ bz := by rw [← hbz]; exact Nat.le_refl _
       rw [hbz] at hz ⊢
       have sda := Hl.keep hba
       clear hwa hbz
       have nz1 : ¬ fpd b FA6 FD6 bz := fun e => by have := pp6.mine bz e; omega
       have nz2 : ¬ H6.blk bz := fun e => by have := pp6.xx.blt bz e; omega
       have pp6 := pp6.keep hba
       have hz6 := hz
       have hst := store41_row rfl H6 D6 x2 hz6
       have rB6 := Br rB6 hba
       refine hK.out _ _ sda fun Hl => ?_; clear hK K
       refine Rd 11 ?pM ?sM
       intro K hK; go_simp
       obtain ⟨ws, hws⟩ := Nq (wa.setRow bz (dvv H6 D6 x2))
       have hz7 := setRow_heap _ _ _ (dvv H6 D6 x2) _ _ hz6
       have pp7 := pp6.row bz (dvv H6 D6 x2) nz1 nz2 (by have := HRL.out.lo; have := HRL.out.blt; omega)
       have hlt := HRL.out.blt
       have rB7 := (setRow_other wa bz B (dvv H6 D6 x2) (by omega)).trans rB6
       have sd7 : SD B H Dv x g0 (off + k * 7) d' (wa.setRow bz (dvv H6 D6 x2)) := Hl.of (setRow_other _ _ _ _ (by omega)) (setRow_other _ _ _ _ (by have := HG0.out; omega))
       rw [hws] at hz7 pp7 rB7 sd7 ⊢; clear hws
       refine hK.out _ _ sd7 fun Hl => ?_; clear hK K
       refine Tm 12 ?pN ?vN Hl ?rN
       simp only [Act.put, Pa, Pb, Pc]
       refine wpAnyH_done (by kernel_rfl) ?_ _
       clear HS
       go_wp2_with fail
       go_meet
       case rel => exact ⟨bz, FA6, FD6, P6, rs6, H6, D6, Q6, qs6, rfl, rfl, hz7, pp7, rB7, nB6, nH6⟩
      case sH =>
       intro K hK; go_simp
       obtain ⟨wa, hwa⟩ := Nq (wdx.alloc (.cells Z13 41))
       rw [hwa]
       have hba : Below wdx.heap.size wdx wa := by rw [← hwa]; exact bel1 _ _
       have hz : wa.heap[wdx.heap.size]? = some (.cells Z13 41 (0, 0)) := by rw [← hwa]; exact heap_alloc_last _ _
       obtain ⟨bz, hbz⟩ := Nq (wdx.heap.size)
       have hbzW : wr.heap.size ≤ bz := by rw [← hbz]; exact hBwd.size
       have hbzE : wdx.heap.size ≤ bz := by rw [← hbz]; exact Nat.le_refl _
       rw [hbz] at hz ⊢
       have sda := Hl.keep hba
       clear hwa hbz
       refine hK.out _ _ sda fun Hl => ?_; clear hK K
       refine Rd 6 ?pO ?sO
       intro K hK; go_simp
       refine (HDO.out _ (Bu hBwd hba Lr)).mono ?_; rintro e v6 ⟨FA6, FD6, P6, rs6, H6, D6, Q6, qs6, rfl, pp6, fr6, nw6⟩
       obtain ⟨rB6, nB6, nH6, nx6⟩ := HRL.out.did (Bu hBwd hba Lr) pp6 fr6 nw6
       have sd6 : SD B H Dv x g0 (off + k * 7) d' v6 := Hl.of (rB6.trans Hl.1.symm) (fr6.block g0 Hl.lt.2 HGF.out)
       have hz6 := (nx6 bz hbzW (Array.getElem?_eq_some_iff.1 hz).1).2.2.trans hz
       have nbz := nx6 bz hbzW (Array.getElem?_eq_some_iff.1 hz).1
       have nz1 := nbz.1
       have nz2 := nbz.2.1
       have hst := store41_row rfl H6 D6 x2 hz6
       refine hK.out _ _ sd6 fun Hl => ?_; clear hK K
       refine Tm 7 ?pP ?vP Hl ?rP
       refine Tm 8 ?pQ ?vQ Hl ?rQ
       refine Tm 9 ?pR ?vR Hl ?rR
       simp only [Act.put, Pa, Pb, Pc]
       refine Rd 11 ?pS ?sS
       intro K hK; go_simp
       obtain ⟨ws, hws⟩ := Nq (v6.setRow bz (dvv H6 D6 x2))
       have hz7 := setRow_heap _ _ _ (dvv H6 D6 x2) _ _ hz6
       have pp7 := pp6.row bz (dvv H6 D6 x2) nz1 nz2 (by have := HRL.out.lo; have := HRL.out.blt; omega)
       have hlt := HRL.out.blt
       have rB7 := (setRow_other v6 bz B (dvv H6 D6 x2) (by omega)).trans rB6
       have sd7 : SD B H Dv x g0 (off + k * 7) d' (v6.setRow bz (dvv H6 D6 x2)) := Hl.of (setRow_other _ _ _ _ (by omega)) (setRow_other _ _ _ _ (by have := HG0.out; omega))
       rw [hws] at hz7 pp7 rB7 sd7 ⊢; clear hws
       refine hK.out _ _ sd7 fun Hl => ?_; clear hK K
       refine Tm 12 ?pT ?vT Hl ?rT
       simp only [Act.put, Pa, Pb, Pc]
       refine wpAnyH_done (by kernel_rfl) ?_ _
       clear HS
       go_wp2_with fail
       go_meet
       case rel => exact ⟨bz, FA6, FD6, P6, rs6, H6, D6, Q6, qs6, rfl, rfl, hz7, pp7, rB7, nB6, nH6⟩
     case rest =>
      obtain ⟨bz, FA6, FD6, P6, rs6, H6, D6, Q6, qs6, rfl, rfl, hz6, pp6, rB6, nB6, nH6⟩ := hcut
      have hld := load41_row hz6
      have hst := store41_row rfl H6 D6 x2 rB6
      have hrl := RL.set pp6 rB6 nB6 nH6 HRL.out.lo
      obtain ⟨W9, hW9⟩ := Nq (wc.setRow B (dvv H6 D6 x2))
      rw [hW9] at hrl hst
      have HRL2 := Hf hrl
      clear hrl hW9 hz6 pp6 rB6 nB6 nH6 HS HDO HSD
      go_upto_region 13 with fail
      clear hld hst
      obtain ⟨c0, c1, c2, c3, c4, c5, c6⟩ := getE (HAT.out.keep HRL2.out.pp.du.bel) k hlt d' HDE.out
      by_cases hk4 : d'.k = 4
      ·skip
       rw [hk4] at c0; clear hk4
       have HKP : Hid (d'.kp < 18446744073709551616) := Hf HOKD.out.2.2
       have hc := HRL2.out.pp.du.d.crash d'.kp 0 HKP.out
       go_wp2_with fail
       refine hc.mono ?_; rintro e w3 ⟨FD3, rfl, d3, q3⟩
       have g3 := HRL2.out.pp.gd.crash d'.kp
       have hc2 := open_any d3 g3
       have HQ3 := Hf (Fr.ofCh q3)
       have HG3 := Hf g3
       clear hc q3 d3 g3 c0 c1 c2 c3 c4 c5 c6
       go_wp2_with fail
       refine hc2.mono ?_; rintro e w4 ⟨b4, ab4, FA4, rfl, du4, hb4, hlo4, hA4⟩
       obtain ⟨x3, hx3⟩ := Nq (({ x2 with cut := false } : X))
       have hfd : ∀ k, H6.blk k → ¬ FD6 k := fun k hk e => HRL2.out.pp.ap k hk (.inr (.inr e))
       have xx3 := HRL2.out.pp.xx.step HQ3.out hfd
       have hblt := HRL2.out.pp.xx.blt
       have hsz3 := HQ3.out.size
       have hB3 : w3.heap[B]? = some (.cells (dvv H6 D6 x2) 41 (0, 0)) := (HQ3.out.block B HRL2.out.blt (fun e => HRL2.out.n1 (.inr (.inr e)))).trans HRL2.out.rb
       have hnof : ∀ k, k < W9.heap.size → ¬ fpd b FA6 FD6 k → ¬ fpd b4 FA4 FD3 k := fun k hk hn e => by
        rcases e with rfl | e | e
        ·omega
        ·have := hA4 k e; omega
        ·rcases HQ3.out.n k e with h1 | h1
         ·exact hn (.inr (.inr h1))
         ·omega
       have HXQ := Hf (xx3.keep hb4)
       have HRB := Hf (Br hB3 hb4)
       have HDU4 : Hid (DU w1 w4 FA4 FD3 b4 ab4 db n (Ns.M.crash P6 d'.kp 0) x3) := Hf (by rw [← hx3]; exact du4)
       have HG4 : Hid (Gd n (Ns.M.crash P6 d'.kp 0) x3 rs6) := Hf (by rw [← hx3]; exact HG3.out)
       have HAP4 : Hid (∀ k, H6.blk k → ¬ fpd b4 FA4 FD3 k) := Hf fun k hk => hnof k (hblt k hk) (HRL2.out.pp.ap k hk)
       have HNB4 : Hid (¬ fpd b4 FA4 FD3 B) := Hf (hnof B HRL2.out.blt HRL2.out.n1)
       have HBS4 : Hid (B < w3.heap.size) := Hf (by have := HRL2.out.blt; omega)
       have HS34 := Hf hb4.size
       obtain ⟨DX, hDX⟩ := Nq (Ns.M.dcrash D6 d'.kp 0)
       have HRX : Hid (RR n (Ns.M.crash Q6 d'.kp 0) false DX) := Hf (by rw [← hDX]; exact Ns.M.rr_crash HRL2.out.pp.xx.rr HRL2.out.pp.gq.ok d'.kp 0)
       have HGX : Hid (Gd n (Ns.M.crash Q6 d'.kp 0) x3 qs6) := Hf (by rw [← hx3]; exact HRL2.out.pp.gq.crash d'.kp)
       have HX33 : Hid (({ x3 with cut := false } : X) = x3) := Hf (by rw [← hx3])
       have HDX := Hf hDX
       have HEP3 : Hid (x3.ep ≤ k + 1) := Hf (by rw [← hx3]; exact HEP2.out)
       have HLO := Hf HRL2.out.lo
       have HMI4 := Hf du4.mine
       obtain ⟨c0, c1, c2, c3, c4, c5, c6⟩ := getE (HAT.out.keep du4.bel) k hlt d' HDE.out
       have HS : Hid (∀ w', Below w4.heap.size w4 w' → (w'.cell? ⟨B, 0, none⟩ = some (.slice H6.h.aN D6.now.length H6.h.cN) ∧ w'.cell? ⟨B, 1, none⟩ = some (.slice H6.h.aS D6.sure.length H6.h.cS) ∧ w'.cell? ⟨B, 2, none⟩ = some (.slice H6.h.aL D6.loo.length H6.h.cL) ∧ w'.cell? ⟨B, 3, none⟩ = some (.bool D6.lost)) ∧ w'.cell? ⟨g0, off + k * 7 + 6, none⟩ = some (.int .u64 (d'.kp : Int))) := Hf fun w' hb => by
        obtain ⟨⟨z0, z1, z2, z3, _, _, _, _, _, _, _, _, _⟩, _⟩ := rowD (Br HRB.out hb)
        exact ⟨⟨z0, z1, z2, z3⟩, (World.cell?_of_block (w := w4) (a := ⟨g0, off + k * 7 + 6, none⟩) (hb.block g0 (World.block_lt_of_cell? w4 _ c6))).trans c6⟩
       clear hc2 du4 hb4 hlo4 hA4 hx3 hfd xx3 hblt hsz3 hB3 hnof hDX HQ3 HG3 c0 c1 c2 c3 c4 c5 c6
       go_upto_region 16 with fail
       go_cut [15, 16] from 85 to 96 (fun p e wx => ∃ bz h7 a8 c8, p = ptr bz ∧ e = .int .i64 0 ∧ wx.heap[bz]? = some (.cells (dvv ⟨h7, a8, c8⟩ DX x3) 41 (0, 0)) ∧ XX wx ⟨h7, a8, c8⟩ DX n (Ns.M.crash Q6 d'.kp 0) x3 ∧ (∀ k, (Hx.mk h7 a8 c8).blk k → H6.blk k ∨ w4.heap.size ≤ k) ∧ ¬ (Hx.mk h7 a8 c8).blk bz ∧ w4.heap.size ≤ bz ∧ Below w4.heap.size w4 wx)
       case first =>
        refine wp_region_held_drew (S := fun wq => Below (w4).heap.size (w4) wq) (by kernel_rfl) (Below.drew (Below.refl _ _)) fun Hl => ?_
        obtain ⟨wdv, hwdv⟩ := Nq (w4.drew)
        have hBwd : Below w4.heap.size w4 wdv := by rw [← hwdv]; exact Below.drew (Below.refl _ _)
        rw [hwdv] at Hl ⊢; clear hwdv
        refine Tm 0 ?pU ?vU Hl ?rU
        refine Tk 1 ?pV ?vV ?yV Hl ?rV
        case yV => intro q h; obtain ⟨⟨z0, z1, z2, z3⟩, y6⟩ := HS.out q h; go_simp; try with_reducible rfl
        refine Tm 2 ?pW ?vW Hl ?rW
        refine Tm 3 ?pX ?vX Hl ?rX
        refine Tm 4 ?pY ?vY Hl ?rY
        refine Tm 5 ?pZ ?vZ Hl ?rZ
        refine Tk 6 ?pa ?va ?ya Hl ?ra
        case ya => intro q h; obtain ⟨⟨z0, z1, z2, z3⟩, y6⟩ := HS.out q h; go_simp; try with_reducible rfl
        simp only [Act.put, Pa, Pb, Pc]
        refine Rn [7, 12] (Rc ?pb ?sb (Rc ?pc ?sc AllReadyH.nil))
        case sb =>
         intro K hK; go_simp
         refine (Ns.rcrash_any H6.h D6 n d'.kp 0 wdv HXQ.out.rr.ok HKP.out (HXQ.out.xd.keep Hl)).mono ?_; rintro e v7 ⟨h7, rfl, xd7, nw7, hb7⟩
         simp only [Ns.Hd.vals]
         rw [HDX.out] at xd7; rw [HDX.out]
         have hn7 : ∀ k, h7.blk k → H6.h.blk k ∨ w4.heap.size ≤ k := fun k hk => (nw7 k hk).imp id (fun h => Nat.le_trans Hl.size h)
         have B7 := Hl.trans (hb7.mono Hl.size)
         refine hK.out _ _ B7 fun Hl => ?_; clear hK K
         refine Rn [8, 12] (Rc ?pd ?sd (Rc ?pe ?se AllReadyH.nil))
         case sd =>
          intro K hK; go_simp
          refine (dopen_any xd7 HRX.out HGX.out).mono ?_; rintro e v8 ⟨a8, c8, rfl, xx8, hnb8, hb8⟩
          rw [HX33.out] at xx8; rw [HX33.out]
          have hn8 : ∀ k, (Hx.mk h7 a8 c8).blk k → H6.blk k ∨ w4.heap.size ≤ k := fun k hk => by
           rcases hk with hk | hk
           ·exact (hn7 k hk).imp .inl id
           ·exact .inr (Nat.le_trans Hl.size (hnb8 k hk))
          have B8 := Hl.trans (hb8.mono Hl.size)
          refine hK.out _ _ B8 fun Hl => ?_; clear hK K
          refine Tm 9 ?pf ?vf Hl ?rf
          refine Tm 10 ?pg ?vg Hl ?rg
          refine Tm 11 ?ph ?vh Hl ?rh
          simp only [Act.put, Pa, Pb, Pc]
          refine Rd 12 ?pi ?si
          intro K hK; go_simp
          obtain ⟨wa78a, hwa⟩ := Nq (v8.alloc (.cells Z13 41))
          rw [hwa]
          have hba : Below v8.heap.size v8 wa78a := by rw [← hwa]; exact bel1 _ _
          have hz : wa78a.heap[v8.heap.size]? = some (.cells Z13 41 (0, 0)) := by rw [← hwa]; exact heap_alloc_last _ _
          obtain ⟨bz, hbz⟩ := Nq (v8.heap.size)
          rw [hbz] at hz ⊢
          have hbzW : w4.heap.size ≤ bz := by rw [← hbz]; exact Hl.size
          have hbzc : v8.heap.size ≤ bz := by rw [← hbz]; exact Nat.le_refl _
          clear hwa hbz
          have Ba78a := Hl.trans (hba.mono Hl.size)
          have hnz : ¬ (Hx.mk h7 a8 c8).blk bz := fun e => by have := xx8.blt bz e; omega
          have xx8 := xx8.keep hba
          have hst := store41_row rfl ⟨h7, a8, c8⟩ DX x3 hz
          refine hK.out _ _ Ba78a fun Hl => ?_; clear hK K
          refine Rd 13 ?pj ?sj
          intro K hK; go_simp
          obtain ⟨ws7812s, hws⟩ := Nq (wa78a.setRow bz (dvv ⟨h7, a8, c8⟩ DX x3))
          have hz2 := setRow_heap _ _ _ (dvv ⟨h7, a8, c8⟩ DX x3) _ _ hz
          have hBs := below_setRow Hl hbzW (dvv ⟨h7, a8, c8⟩ DX x3)
          have xx9 := xx8.keepBut (w' := wa78a.setRow bz (dvv ⟨h7, a8, c8⟩ DX x3)) (fun k _ hk => setRow_other _ _ _ _ (fun e => hnz (e ▸ hk))) (by simp [World.setRow])
          rw [hws] at hz2 hBs xx9 ⊢; clear hws
          refine hK.out _ _ hBs fun Hl => ?_; clear hK K
          refine Tm 14 ?pk ?vk Hl ?rk
          simp only [Act.put, Pa, Pb, Pc]
          refine wpAnyH_done (by kernel_rfl) ?_ _
          clear HS
          go_wp2_with fail
          go_meet
          case rel => exact ⟨bz, h7, a8, c8, rfl, rfl, hz2, xx9, hn8, hnz, hbzW, Hl⟩
         case se =>
          intro K hK; go_simp
          obtain ⟨wa7a, hwa⟩ := Nq (v7.alloc (.cells Z13 41))
          rw [hwa]
          have hba : Below v7.heap.size v7 wa7a := by rw [← hwa]; exact bel1 _ _
          have hz : wa7a.heap[v7.heap.size]? = some (.cells Z13 41 (0, 0)) := by rw [← hwa]; exact heap_alloc_last _ _
          obtain ⟨bz, hbz⟩ := Nq (v7.heap.size)
          rw [hbz] at hz ⊢
          have hbzW : w4.heap.size ≤ bz := by rw [← hbz]; exact Hl.size
          have hbzc : v7.heap.size ≤ bz := by rw [← hbz]; exact Nat.le_refl _
          clear hwa hbz
          have Ba7a := Hl.trans (hba.mono Hl.size)
          have h7z : ¬ h7.blk bz := fun e => by have := xd7.lt bz e; omega
          have xd7 := xd7.keep hba
          refine hK.out _ _ Ba7a fun Hl => ?_; clear hK K
          refine Rd 8 ?pl ?sl
          intro K hK; go_simp
          refine (dopen_any xd7 HRX.out HGX.out).mono ?_; rintro e v8 ⟨a8, c8, rfl, xx8, hnb8, hb8⟩
          rw [HX33.out] at xx8; rw [HX33.out]
          have hn8 : ∀ k, (Hx.mk h7 a8 c8).blk k → H6.blk k ∨ w4.heap.size ≤ k := fun k hk => by
           rcases hk with hk | hk
           ·exact (hn7 k hk).imp .inl id
           ·exact .inr (Nat.le_trans Hl.size (hnb8 k hk))
          have B8 := Hl.trans (hb8.mono Hl.size)
          have hnz : ¬ (Hx.mk h7 a8 c8).blk bz := fun e => by
           rcases e with e | e
           ·exact h7z e
           ·have := hnb8 bz e; have := (Array.getElem?_eq_some_iff.1 hz).1; omega
          have hz := Br hz hb8
          have hst := store41_row rfl ⟨h7, a8, c8⟩ DX x3 hz
          refine hK.out _ _ B8 fun Hl => ?_; clear hK K
          refine Tm 9 ?pm ?vm Hl ?rm
          refine Tm 10 ?pn ?vn Hl ?rn
          refine Tm 11 ?po ?vo Hl ?ro
          simp only [Act.put, Pa, Pb, Pc]
          refine Rd 13 ?pp ?sp
          intro K hK; go_simp
          obtain ⟨ws7128s, hws⟩ := Nq (v8.setRow bz (dvv ⟨h7, a8, c8⟩ DX x3))
          have hz2 := setRow_heap _ _ _ (dvv ⟨h7, a8, c8⟩ DX x3) _ _ hz
          have hBs := below_setRow Hl hbzW (dvv ⟨h7, a8, c8⟩ DX x3)
          have xx9 := xx8.keepBut (w' := v8.setRow bz (dvv ⟨h7, a8, c8⟩ DX x3)) (fun k _ hk => setRow_other _ _ _ _ (fun e => hnz (e ▸ hk))) (by simp [World.setRow])
          rw [hws] at hz2 hBs xx9 ⊢; clear hws
          refine hK.out _ _ hBs fun Hl => ?_; clear hK K
          refine Tm 14 ?pq ?vq Hl ?rq
          simp only [Act.put, Pa, Pb, Pc]
          refine wpAnyH_done (by kernel_rfl) ?_ _
          clear HS
          go_wp2_with fail
          go_meet
          case rel => exact ⟨bz, h7, a8, c8, rfl, rfl, hz2, xx9, hn8, hnz, hbzW, Hl⟩
        case sc =>
         intro K hK; go_simp
         obtain ⟨waa, hwa⟩ := Nq (wdv.alloc (.cells Z13 41))
         rw [hwa]
         have hba : Below wdv.heap.size wdv waa := by rw [← hwa]; exact bel1 _ _
         have hz : waa.heap[wdv.heap.size]? = some (.cells Z13 41 (0, 0)) := by rw [← hwa]; exact heap_alloc_last _ _
         obtain ⟨bz, hbz⟩ := Nq (wdv.heap.size)
         rw [hbz] at hz ⊢
         have hbzW : w4.heap.size ≤ bz := by rw [← hbz]; exact Hl.size
         have hbzc : wdv.heap.size ≤ bz := by rw [← hbz]; exact Nat.le_refl _
         clear hwa hbz
         have Baa := Hl.trans (hba.mono Hl.size)
         refine hK.out _ _ Baa fun Hl => ?_; clear hK K
         refine Rd 7 ?pr ?sr
         intro K hK; go_simp
         refine (Ns.rcrash_any H6.h D6 n d'.kp 0 waa HXQ.out.rr.ok HKP.out (HXQ.out.xd.keep Hl)).mono ?_; rintro e v7 ⟨h7, rfl, xd7, nw7, hb7⟩
         simp only [Ns.Hd.vals]
         rw [HDX.out] at xd7; rw [HDX.out]
         have hn7 : ∀ k, h7.blk k → H6.h.blk k ∨ w4.heap.size ≤ k := fun k hk => (nw7 k hk).imp id (fun h => Nat.le_trans Hl.size h)
         have B7 := Hl.trans (hb7.mono Hl.size)
         have h7z : ¬ h7.blk bz := fun e => by
          rcases nw7 bz e with e | e
          ·have := HXQ.out.xd.lt bz e; omega
          ·have := (Array.getElem?_eq_some_iff.1 hz).1; omega
         have hz := Br hz hb7
         refine hK.out _ _ B7 fun Hl => ?_; clear hK K
         refine Rd 8 ?ps ?ss
         intro K hK; go_simp
         refine (dopen_any xd7 HRX.out HGX.out).mono ?_; rintro e v8 ⟨a8, c8, rfl, xx8, hnb8, hb8⟩
         rw [HX33.out] at xx8; rw [HX33.out]
         have hn8 : ∀ k, (Hx.mk h7 a8 c8).blk k → H6.blk k ∨ w4.heap.size ≤ k := fun k hk => by
          rcases hk with hk | hk
          ·exact (hn7 k hk).imp .inl id
          ·exact .inr (Nat.le_trans Hl.size (hnb8 k hk))
         have B8 := Hl.trans (hb8.mono Hl.size)
         have hnz : ¬ (Hx.mk h7 a8 c8).blk bz := fun e => by
          rcases e with e | e
          ·exact h7z e
          ·have := hnb8 bz e; have := (Array.getElem?_eq_some_iff.1 hz).1; omega
         have hz := Br hz hb8
         have hst := store41_row rfl ⟨h7, a8, c8⟩ DX x3 hz
         refine hK.out _ _ B8 fun Hl => ?_; clear hK K
         refine Tm 9 ?pt ?vt Hl ?rt
         refine Tm 10 ?pu ?vu Hl ?ru
         refine Tm 11 ?pv ?vv Hl ?rv
         simp only [Act.put, Pa, Pb, Pc]
         refine Rd 13 ?pw ?sw
         intro K hK; go_simp
         obtain ⟨ws1278s, hws⟩ := Nq (v8.setRow bz (dvv ⟨h7, a8, c8⟩ DX x3))
         have hz2 := setRow_heap _ _ _ (dvv ⟨h7, a8, c8⟩ DX x3) _ _ hz
         have hBs := below_setRow Hl hbzW (dvv ⟨h7, a8, c8⟩ DX x3)
         have xx9 := xx8.keepBut (w' := v8.setRow bz (dvv ⟨h7, a8, c8⟩ DX x3)) (fun k _ hk => setRow_other _ _ _ _ (fun e => hnz (e ▸ hk))) (by simp [World.setRow])
         rw [hws] at hz2 hBs xx9 ⊢; clear hws
         refine hK.out _ _ hBs fun Hl => ?_; clear hK K
         refine Tm 14 ?px ?vx Hl ?rx
         simp only [Act.put, Pa, Pb, Pc]
         refine wpAnyH_done (by kernel_rfl) ?_ _
         clear HS
         go_wp2_with fail
         go_meet
         case rel => exact ⟨bz, h7, a8, c8, rfl, rfl, hz2, xx9, hn8, hnz, hbzW, Hl⟩
       case rest =>
        obtain ⟨bz, h7, a8, c8, rfl, rfl, hz, xx9, hn8, hnz, hbz, hbc⟩ := hcut
        have hld := load41_row hz
        have hrB := Br HRB.out hbc
        have hst := store41_row rfl ⟨h7, a8, c8⟩ DX x3 hrB
        have hpp : PP w1 wc FA4 FD3 b4 ab4 db n (Ns.M.crash P6 d'.kp 0) x3 rs6 ⟨h7, a8, c8⟩ DX (Ns.M.crash Q6 d'.kp 0) qs6 := ⟨HDU4.out.keep hbc, HG4.out, xx9, HGX.out, fun k hk e => by
         rcases hn8 k hk with h1 | h1
         ·exact HAP4.out k h1 e
         ·have := (HMI4.out k e).2; omega⟩
        have hrl := RL.set hpp hrB HNB4.out (fun e => by
         rcases hn8 B e with h1 | h1
         ·exact HRL2.out.n2 h1
         ·have := HBS4.out; have := HS34.out; omega) HLO.out
        obtain ⟨W10, hW10⟩ := Nq (wc.setRow B (dvv ⟨h7, a8, c8⟩ DX x3))
        rw [hW10] at hrl hst
        obtain ⟨H8, hH8⟩ := Nq (Hx.mk h7 a8 c8)
        rw [hH8] at hrl hst hld
        have HRL3 := Hf hrl
        have HH8 := Hf hH8
        clear hrl hW10 hz xx9 hn8 hnz hbz hbc hrB hpp HS HXQ HRB; clear hH8
        go_upto_region 21 with fail
        clear hld hst
        have hpp := HRL3.out.pp
        have HPM : Hid (∀ W, Below W10.heap.size W10 W → Calls Tryz.prog 16 #[ptr b4] W fun e w' => e = .returned (bV x3.a.p) ∧ Below W.heap.size W w') := Hf fun W hW => (HRL3.out.pp.du.keep hW).promised
        have HBS : Hid (∀ W, Below W10.heap.size W10 W → Calls Tryz.prog 17 #[ptr b4] W fun e w' => e = .returned (.int .i64 x3.a.base) ∧ w' = W) := Hf fun W hW => (HRL3.out.pp.du.keep hW).base
        have HVT : Hid (∀ W, Below W10.heap.size W10 W → Calls Tryz.prog 21 #[ptr b4, .int .i64 0] W fun e w' => ∃ ad c, e = .returned (.slice ad x3.a.l.length c) ∧ XL vl w' ad c x3.a.l ∧ (∀ j, blk ad j → W.heap.size ≤ j ∧ j < w'.heap.size) ∧ Below W.heap.size W w') := Hf fun W hW => by
         have h := (HRL3.out.pp.du.keep hW).votes 0
         rw [HRL3.out.pp.gd.aok.1.all] at h
         exact h
        have HRM : Hid (∀ W, Below W10.heap.size W10 W → Calls Tryz.prog 18 #[ptr b4] W fun e w' => e = .returned (.int .i64 ((hf n - x3.us : Nat) : Int)) ∧ Below W.heap.size W w') := Hf fun W hW => (HRL3.out.pp.du.keep hW).room (by have := HRL3.out.pp.gd.n10; omega) HRL3.out.pp.gd.le
        have HDR : Hid (∀ W, Calls Tryz.prog 19 #[.agg (dvv H8 DX x3)] W fun e w' => e = .returned (.int .i64 ((hf n - x3.us : Nat) : Int)) ∧ Below W.heap.size W w') := Hf fun W => droom_any HRL3.out.pp.xx.len.1 (by have := HRL3.out.pp.gd.n10; omega) HRL3.out.pp.gd.nle HRL3.out.pp.gd.le
        have HAX : Hid (∀ W, Below W10.heap.size W10 W → AtL vl W H8.ad x3.a.l) := Hf fun W hW => (HRL3.out.pp.xx.xl.keep hW).at'
        have HLE : Hid (x3.a.l.length ≤ 1000000) := Hf (by have := HRL3.out.pp.gd.aok.1.len; omega)
        have HS : Hid (∀ w', Below W10.heap.size W10 w' → (ld41 ⟨B, 0, none⟩).run Tryz.prog w' = .ok (dvv H8 DX x3) w' ∧ w'.cell? ⟨B, 8, none⟩ = some (.int .i64 x3.a.p.i) ∧ w'.cell? ⟨B, 9, none⟩ = some (.int .i64 x3.a.p.t) ∧ w'.cell? ⟨B, 10, none⟩ = some (.int .i64 x3.a.base) ∧ w'.cell? ⟨B, 11, none⟩ = some (.slice H8.ad x3.a.l.length H8.c)) := Hf fun w' hb => by
         obtain ⟨⟨_, _, _, _, _, _, _, _, z8, z9, z10, z11, _⟩, _⟩ := rowD (Br HRL3.out.rb hb)
         exact ⟨load41_row (Br HRL3.out.rb hb), z8, z9, z10, z11⟩
        have hq : ∀ W, (binOp .neq 36 (.agg #[.int .i64 x3.a.p.i, .int .i64 x3.a.p.t]) (.agg #[.int .i64 x3.a.p.i, .int .i64 x3.a.p.t])).run Tryz.prog W = .ok (.bool false) W := fun W => by rw [ne36]; simp
        have hzz : (((hf n - x3.us : Nat) : Int) != ((hf n - x3.us : Nat) : Int)) = false := by simp
        have hyy : (x3.a.base != x3.a.base) = false := by simp
        clear hpp
        go_wp2_with fail
        refine wp_region_held_drew (S := fun wq => Below (W10).heap.size (W10) wq) (by kernel_rfl) (Below.drew (Below.refl _ _)) fun Hl => ?_
        obtain ⟨wdc, hwdc⟩ := Nq (W10.drew)
        have hBwd : Below W10.heap.size W10 wdc := by rw [← hwdc]; exact Below.drew (Below.refl _ _)
        rw [hwdc] at Hl ⊢; clear hwdc
        refine Tm 0 ?py ?vy Hl ?ry
        simp only [Act.put, Pa, Pb, Pc]
        refine Tm 1 ?pz ?vz Hl ?rz
        simp only [Act.put, Pa, Pb, Pc]
        refine Tm 2 ?p0 ?v0 Hl ?r0
        simp only [Act.put, Pa, Pb, Pc]
        refine Tm 3 ?p1 ?v1 Hl ?r1
        simp only [Act.put, Pa, Pb, Pc]
        refine Tm 5 ?p2 ?v2 Hl ?r2
        simp only [Act.put, Pa, Pb, Pc]
        refine Tm 6 ?p3 ?v3 Hl ?r3
        simp only [Act.put, Pa, Pb, Pc]
        refine Tk 7 ?p4 ?v4 ?y4 Hl ?r4
        case y4 => intro q h; obtain ⟨zl, z8, z9, z10, z11⟩ := HS.out q h; go_simp; try with_reducible rfl
        simp only [Act.put, Pa, Pb, Pc]
        refine Rd 4 ?p5 ?s5
        intro K hK; go_simp
        refine (HPM.out _ Hl).mono ?_; rintro e v4 ⟨rfl, hb4⟩
        have B4 := Hl.trans (hb4.mono Hl.size)
        refine hK.out _ _ B4 fun Hl => ?_; clear hK K
        refine Tm 8 ?p6 ?v6 Hl ?r6
        simp only [Act.put, Pa, Pb, Pc]
        refine Tm 9 ?p7 ?v7 Hl ?r7
        simp only [Act.put, Pa, Pb, Pc]
        refine Tm 10 ?p8 ?v8 Hl ?r8
        simp only [Act.put, Pa, Pb, Pc]
        refine Tm 11 ?p9 ?v9 Hl ?r9
        simp only [Act.put, Pa, Pb, Pc]
        refine Tm 13 ?pBA ?vBA Hl ?rBA
        simp only [Act.put, Pa, Pb, Pc]
        refine Tm 14 ?pBB ?vBB Hl ?rBB
        simp only [Act.put, Pa, Pb, Pc]
        refine Tk 15 ?pBC ?vBC ?yBC Hl ?rBC
        case yBC => intro q h; obtain ⟨zl, z8, z9, z10, z11⟩ := HS.out q h; go_simp; try with_reducible rfl
        simp only [Act.put, Pa, Pb, Pc]
        refine Rd 12 ?pBD ?sBD
        intro K hK; go_simp
        refine (HBS.out _ Hl).mono ?_; rintro e v12 ⟨rfl, hv12⟩
        obtain rfl := hv12.symm
        clear hv12
        refine hK.out _ _ Hl fun Hl => ?_; clear hK K
        refine Tm 16 ?pBE ?vBE Hl ?rBE
        simp only [Act.put, Pa, Pb, Pc]
        refine Tm 17 ?pBF ?vBF Hl ?rBF
        simp only [Act.put, Pa, Pb, Pc]
        refine Tm 18 ?pBG ?vBG Hl ?rBG
        simp only [Act.put, Pa, Pb, Pc]
        refine Tm 19 ?pBH ?vBH Hl ?rBH
        simp only [Act.put, Pa, Pb, Pc]
        refine Tk 21 ?pBI ?vBI ?yBI Hl ?rBI
        case yBI => intro q h; obtain ⟨zl, z8, z9, z10, z11⟩ := HS.out q h; go_simp; try with_reducible rfl
        simp only [Act.put, Pa, Pb, Pc]
        refine Rd 20 ?pBJ ?sBJ
        intro K hK; go_simp
        refine (HRM.out _ Hl).mono ?_; rintro e v20 ⟨rfl, hb20⟩
        have B20 := Hl.trans (hb20.mono Hl.size)
        refine hK.out _ _ B20 fun Hl => ?_; clear hK K
        refine Rd 22 ?pBK ?sBK
        intro K hK; go_simp
        refine (HDR.out _).mono ?_; rintro e v22 ⟨rfl, hb22⟩
        have B22 := Hl.trans (hb22.mono Hl.size)
        refine hK.out _ _ B22 fun Hl => ?_; clear hK K
        refine Tm 23 ?pBL ?vBL Hl ?rBL
        simp only [Act.put, Pa, Pb, Pc]
        refine Tm 24 ?pBM ?vBM Hl ?rBM
        simp only [Act.put, Pa, Pb, Pc]
        refine Tm 25 ?pBN ?vBN Hl ?rBN
        simp only [Act.put, Pa, Pb, Pc]
        refine Tm 26 ?pBO ?vBO Hl ?rBO
        simp only [Act.put, Pa, Pb, Pc]
        refine Tm 28 ?pBP ?vBP Hl ?rBP
        simp only [Act.put, Pa, Pb, Pc]
        refine Tm 29 ?pBQ ?vBQ Hl ?rBQ
        simp only [Act.put, Pa, Pb, Pc]
        refine Tk 30 ?pBR ?vBR ?yBR Hl ?rBR
        case yBR => intro q h; obtain ⟨zl, z8, z9, z10, z11⟩ := HS.out q h; go_simp; try with_reducible rfl
        simp only [Act.put, Pa, Pb, Pc]
        refine Rd 27 ?pBS ?sBS
        intro K hK; go_simp
        refine (HVT.out _ Hl).mono ?_; rintro e v27 ⟨a27, c27, rfl, hx27, _, hb27⟩
        have B27 := Hl.trans (hb27.mono Hl.size)
        refine hK.out _ _ B27 fun Hl => ?_; clear hK K
        refine Rd 31 ?pBT ?sBT
        intro K hK; go_simp
        refine (Na.same_any a27 c27 H8.ad H8.c _ _ HLE.out hx27.at' (HAX.out _ Hl)).mono ?_; rintro e v31 ⟨rfl, hb31⟩
        have B31 := Hl.trans (hb31.mono Hl.size)
        refine hK.out _ _ B31 fun Hl => ?_; clear hK K
        refine Tm 32 ?pBU ?vBU Hl ?rBU
        simp only [Act.put, Pa, Pb, Pc]
        refine Tm 33 ?pBV ?vBV Hl ?rBV
        simp only [Act.put, Pa, Pb, Pc]
        refine wpAnyH_done (by kernel_rfl) ?_ _
        have HBF := Hf (HRL3.out.keep Hl)
        clear HS; go_wp2
        go_roundw
        case rel => exact ⟨k + 1, b4, x3, by omega, rfl, by go_num, HEP3.out, ⟨_, _, _, _, _, _, _, _, _, HBF.out⟩⟩
        case measure => simp [intOf]; omega
      ·skip
       have hk4d : (d'.k == 4) = false := by simpa using hk4
       clear hk4
       have HRL3 := HRL2
       go_upto_region 21 with fail
       clear c0 c1 c2 c3 c4 c5 c6 hk4d
       have hpp := HRL3.out.pp
       have HPM : Hid (∀ W, Below W9.heap.size W9 W → Calls Tryz.prog 16 #[ptr b] W fun e w' => e = .returned (bV x2.a.p) ∧ Below W.heap.size W w') := Hf fun W hW => (HRL3.out.pp.du.keep hW).promised
       have HBS : Hid (∀ W, Below W9.heap.size W9 W → Calls Tryz.prog 17 #[ptr b] W fun e w' => e = .returned (.int .i64 x2.a.base) ∧ w' = W) := Hf fun W hW => (HRL3.out.pp.du.keep hW).base
       have HVT : Hid (∀ W, Below W9.heap.size W9 W → Calls Tryz.prog 21 #[ptr b, .int .i64 0] W fun e w' => ∃ ad c, e = .returned (.slice ad x2.a.l.length c) ∧ XL vl w' ad c x2.a.l ∧ (∀ j, blk ad j → W.heap.size ≤ j ∧ j < w'.heap.size) ∧ Below W.heap.size W w') := Hf fun W hW => by
        have h := (HRL3.out.pp.du.keep hW).votes 0
        rw [HRL3.out.pp.gd.aok.1.all] at h
        exact h
       have HRM : Hid (∀ W, Below W9.heap.size W9 W → Calls Tryz.prog 18 #[ptr b] W fun e w' => e = .returned (.int .i64 ((hf n - x2.us : Nat) : Int)) ∧ Below W.heap.size W w') := Hf fun W hW => (HRL3.out.pp.du.keep hW).room (by have := HRL3.out.pp.gd.n10; omega) HRL3.out.pp.gd.le
       have HDR : Hid (∀ W, Calls Tryz.prog 19 #[.agg (dvv H6 D6 x2)] W fun e w' => e = .returned (.int .i64 ((hf n - x2.us : Nat) : Int)) ∧ Below W.heap.size W w') := Hf fun W => droom_any HRL3.out.pp.xx.len.1 (by have := HRL3.out.pp.gd.n10; omega) HRL3.out.pp.gd.nle HRL3.out.pp.gd.le
       have HAX : Hid (∀ W, Below W9.heap.size W9 W → AtL vl W H6.ad x2.a.l) := Hf fun W hW => (HRL3.out.pp.xx.xl.keep hW).at'
       have HLE : Hid (x2.a.l.length ≤ 1000000) := Hf (by have := HRL3.out.pp.gd.aok.1.len; omega)
       have HS : Hid (∀ w', Below W9.heap.size W9 w' → (ld41 ⟨B, 0, none⟩).run Tryz.prog w' = .ok (dvv H6 D6 x2) w' ∧ w'.cell? ⟨B, 8, none⟩ = some (.int .i64 x2.a.p.i) ∧ w'.cell? ⟨B, 9, none⟩ = some (.int .i64 x2.a.p.t) ∧ w'.cell? ⟨B, 10, none⟩ = some (.int .i64 x2.a.base) ∧ w'.cell? ⟨B, 11, none⟩ = some (.slice H6.ad x2.a.l.length H6.c)) := Hf fun w' hb => by
        obtain ⟨⟨_, _, _, _, _, _, _, _, z8, z9, z10, z11, _⟩, _⟩ := rowD (Br HRL3.out.rb hb)
        exact ⟨load41_row (Br HRL3.out.rb hb), z8, z9, z10, z11⟩
       have hq : ∀ W, (binOp .neq 36 (.agg #[.int .i64 x2.a.p.i, .int .i64 x2.a.p.t]) (.agg #[.int .i64 x2.a.p.i, .int .i64 x2.a.p.t])).run Tryz.prog W = .ok (.bool false) W := fun W => by rw [ne36]; simp
       have hzz : (((hf n - x2.us : Nat) : Int) != ((hf n - x2.us : Nat) : Int)) = false := by simp
       have hyy : (x2.a.base != x2.a.base) = false := by simp
       clear hpp
       go_wp2_with fail
       refine wp_region_held_drew (S := fun wq => Below (W9).heap.size (W9) wq) (by kernel_rfl) (Below.drew (Below.refl _ _)) fun Hl => ?_
       obtain ⟨wdo, hwdo⟩ := Nq (W9.drew)
       have hBwd : Below W9.heap.size W9 wdo := by rw [← hwdo]; exact Below.drew (Below.refl _ _)
       rw [hwdo] at Hl ⊢; clear hwdo
       refine Tm 0 ?pBW ?vBW Hl ?rBW
       simp only [Act.put, Pa, Pb, Pc]
       refine Tm 1 ?pBX ?vBX Hl ?rBX
       simp only [Act.put, Pa, Pb, Pc]
       refine Tm 2 ?pBY ?vBY Hl ?rBY
       simp only [Act.put, Pa, Pb, Pc]
       refine Tm 3 ?pBZ ?vBZ Hl ?rBZ
       simp only [Act.put, Pa, Pb, Pc]
       refine Tm 5 ?pBa ?vBa Hl ?rBa
       simp only [Act.put, Pa, Pb, Pc]
       refine Tm 6 ?pBb ?vBb Hl ?rBb
       simp only [Act.put, Pa, Pb, Pc]
       refine Tk 7 ?pBc ?vBc ?yBc Hl ?rBc
       case yBc => intro q h; obtain ⟨zl, z8, z9, z10, z11⟩ := HS.out q h; go_simp; try with_reducible rfl
       simp only [Act.put, Pa, Pb, Pc]
       refine Rd 4 ?pBd ?sBd
       intro K hK; go_simp
       refine (HPM.out _ Hl).mono ?_; rintro e v4 ⟨rfl, hb4⟩
       have B4 := Hl.trans (hb4.mono Hl.size)
       refine hK.out _ _ B4 fun Hl => ?_; clear hK K
       refine Tm 8 ?pBe ?vBe Hl ?rBe
       simp only [Act.put, Pa, Pb, Pc]
       refine Tm 9 ?pBf ?vBf Hl ?rBf
       simp only [Act.put, Pa, Pb, Pc]
       refine Tm 10 ?pBg ?vBg Hl ?rBg
       simp only [Act.put, Pa, Pb, Pc]
       refine Tm 11 ?pBh ?vBh Hl ?rBh
       simp only [Act.put, Pa, Pb, Pc]
       refine Tm 13 ?pBi ?vBi Hl ?rBi
       simp only [Act.put, Pa, Pb, Pc]
       refine Tm 14 ?pBj ?vBj Hl ?rBj
       simp only [Act.put, Pa, Pb, Pc]
       refine Tk 15 ?pBk ?vBk ?yBk Hl ?rBk
       case yBk => intro q h; obtain ⟨zl, z8, z9, z10, z11⟩ := HS.out q h; go_simp; try with_reducible rfl
       simp only [Act.put, Pa, Pb, Pc]
       refine Rd 12 ?pBl ?sBl
       intro K hK; go_simp
       refine (HBS.out _ Hl).mono ?_; rintro e v12 ⟨rfl, hv12⟩
       obtain rfl := hv12.symm
       clear hv12
       refine hK.out _ _ Hl fun Hl => ?_; clear hK K
       refine Tm 16 ?pBm ?vBm Hl ?rBm
       simp only [Act.put, Pa, Pb, Pc]
       refine Tm 17 ?pBn ?vBn Hl ?rBn
       simp only [Act.put, Pa, Pb, Pc]
       refine Tm 18 ?pBo ?vBo Hl ?rBo
       simp only [Act.put, Pa, Pb, Pc]
       refine Tm 19 ?pBp ?vBp Hl ?rBp
       simp only [Act.put, Pa, Pb, Pc]
       refine Tk 21 ?pBq ?vBq ?yBq Hl ?rBq
       case yBq => intro q h; obtain ⟨zl, z8, z9, z10, z11⟩ := HS.out q h; go_simp; try with_reducible rfl
       simp only [Act.put, Pa, Pb, Pc]
       refine Rd 20 ?pBr ?sBr
       intro K hK; go_simp
       refine (HRM.out _ Hl).mono ?_; rintro e v20 ⟨rfl, hb20⟩
       have B20 := Hl.trans (hb20.mono Hl.size)
       refine hK.out _ _ B20 fun Hl => ?_; clear hK K
       refine Rd 22 ?pBs ?sBs
       intro K hK; go_simp
       refine (HDR.out _).mono ?_; rintro e v22 ⟨rfl, hb22⟩
       have B22 := Hl.trans (hb22.mono Hl.size)
       refine hK.out _ _ B22 fun Hl => ?_; clear hK K
       refine Tm 23 ?pBt ?vBt Hl ?rBt
       simp only [Act.put, Pa, Pb, Pc]
       refine Tm 24 ?pBu ?vBu Hl ?rBu
       simp only [Act.put, Pa, Pb, Pc]
       refine Tm 25 ?pBv ?vBv Hl ?rBv
       simp only [Act.put, Pa, Pb, Pc]
       refine Tm 26 ?pBw ?vBw Hl ?rBw
       simp only [Act.put, Pa, Pb, Pc]
       refine Tm 28 ?pBx ?vBx Hl ?rBx
       simp only [Act.put, Pa, Pb, Pc]
       refine Tm 29 ?pBy ?vBy Hl ?rBy
       simp only [Act.put, Pa, Pb, Pc]
       refine Tk 30 ?pBz ?vBz ?yBz Hl ?rBz
       case yBz => intro q h; obtain ⟨zl, z8, z9, z10, z11⟩ := HS.out q h; go_simp; try with_reducible rfl
       simp only [Act.put, Pa, Pb, Pc]
       refine Rd 27 ?pB0 ?sB0
       intro K hK; go_simp
       refine (HVT.out _ Hl).mono ?_; rintro e v27 ⟨a27, c27, rfl, hx27, _, hb27⟩
       have B27 := Hl.trans (hb27.mono Hl.size)
       refine hK.out _ _ B27 fun Hl => ?_; clear hK K
       refine Rd 31 ?pB1 ?sB1
       intro K hK; go_simp
       refine (Na.same_any a27 c27 H6.ad H6.c _ _ HLE.out hx27.at' (HAX.out _ Hl)).mono ?_; rintro e v31 ⟨rfl, hb31⟩
       have B31 := Hl.trans (hb31.mono Hl.size)
       refine hK.out _ _ B31 fun Hl => ?_; clear hK K
       refine Tm 32 ?pB2 ?vB2 Hl ?rB2
       simp only [Act.put, Pa, Pb, Pc]
       refine Tm 33 ?pB3 ?vB3 Hl ?rB3
       simp only [Act.put, Pa, Pb, Pc]
       refine wpAnyH_done (by kernel_rfl) ?_ _
       have HBF := Hf (HRL3.out.keep Hl)
       clear HS; go_wp2
       go_roundw
       case rel => exact ⟨k + 1, b, x2, by omega, rfl, by go_num, HEP2.out, ⟨_, _, _, _, _, _, _, _, _, HBF.out⟩⟩
       case measure => simp [intOf]; omega
    ·obtain rfl : k = l.length := by omega
     have HB9 : Hid (Below w1.heap.size w1 wr) := Hf (by
      obtain ⟨FA, FD, ab, P, rs, H, Dv, Q, qs, hrl⟩ := hri
      exact hrl.pp.du.bel)
     clear hri hep
     go_wp2_with fail
     refine (awake_any _).mono ?_; rintro e w8 ⟨rfl, b8⟩
     have HB8 := Hf b8
     clear b8; go_wp2
     go_ret
     exact ⟨rfl, Bu (Bu HW0.out HB9.out Lr) HB8.out Lr⟩
end Go.Proofs.YtlnedgjikkhplaaGreat.Du
