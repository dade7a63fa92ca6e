import Derived.Test.YtlnedgjikkhplaaGreatGP47
set_option maxRecDepth 100000
set_option maxHeartbeats 8000000
set_option linter.unusedVariables false
set_option linter.unusedSimpArgs false
namespace Go.Proofs.YtlnedgjikkhplaaGreat.Du
open Go.RowKit
open Na (Fr AS XL vl bV vV Hf bel1 bel2 Bu Br row2 row4 blk OwnL AtL)
open Na.M (E V S S0)
open Ns (Hd XD)
open Ns.M (DD RR ofL)
theorem room_walk (n0 : Int) (al : Option Addr) (cap : Nat) (l : List Du.D) (w : World) (hn0 : (Lit.int .i64 n0).wf = true) (hm : l.length ≤ maxLen) (hat : AtL dl w al l) (hok : ∀ d ∈ l, d.ok) :
  Calls Tryz.prog 5 #[.int .i64 n0, .slice al l.length cap] w fun e w' => e = .returned (.bool true) ∧ Below w.heap.size w w' := by
 have HAT := Hf hat
 have HW0 := Hf (Below.refl w.heap.size w)
 have hfew := few_any n0 al cap l w hm hat hok
 have HOKS := Hf hok
 clear hat hok hm hn0
 go_enter Tryz.func5, Tryz.ntmps5
 go_wp2_with fail
 refine hfew.mono ?_; rintro e w1 (⟨rfl, rfl⟩ | ⟨rfl, hfw, rfl⟩)
 ·clear hfew
  go_wp2_with fail
  refine (awake_any _).mono ?_; rintro e w8 ⟨rfl, b8⟩
  have HB8 := Hf b8
  clear b8; go_wp2
  go_ret
  exact ⟨rfl, Bu HW0.out HB8.out Lr⟩
 ·have HFW := Hf hfw
  have hl25 : l.length ≤ 25 := hfw.l
  have hn3 := hfw.n
  clear hfew hfw
  have hnw := Ns.newD n0 w1
  have hcn := Ns.cntOf_le n0
  obtain ⟨n, hnn⟩ := Nq (Ns.cntOf n0)
  have HCN := Hf hnn
  rw [hnn] at hnw hcn
  have HNS : Hid (n ≤ 1024) := Hf (by obtain ⟨_, _, h3⟩ := hcn; omega)
  clear hnn
  obtain ⟨hcn1, hcn2, _⟩ := hcn
  go_wp2_with fail
  refine hnw.mono ?_; rintro e w2 ⟨db, FD1, rfl, ds2⟩
  clear hnw hn3
  by_cases hsm : n < 10
  ·skip
   have ho := open_small ds2 hsm
   have HD2 := Hf ds2
   have hln : (Ns.newDD n).now.length < 10 := by simp [Ns.newDD]; exact hsm
   have hrn := fun W => Ns.rnew_any n0 W
   rw [HCN.out] at hrn; clear ds2 hsm hcn1 hcn2
   go_wp2_with fail
   refine ho.mono ?_; rintro e w3 ⟨rfl, hw3⟩
   obtain rfl := hw3.symm
   clear ho hw3
   go_wp2_with fail
   refine (hrn _).mono ?_; rintro e w4 ⟨h0, rfl, xd4, _, hb4⟩
   have hos := fun W => dopen_small h0 (Ns.newDD n) W hln
   have HB4 := Hf (Bu HD2.out.bel hb4 Lr)
   clear hrn xd4 hb4
   go_wp2_with fail
   refine (hos _).mono ?_; rintro e w5 ⟨rfl, hb5⟩
   obtain ⟨W6, hst, hb6, hr6⟩ := box41 w5 HZ DZ X0
   have HB6 := Hf (Bu HB4.out (Bu hb5 hb6 Lr) Lr)
   clear hos hb5 hb6 hr6
   go_wp2_with fail
   refine (awake_any _).mono ?_; rintro e w8 ⟨rfl, b8⟩
   have HB8 := Hf b8
   clear b8; go_wp2
   go_ret
   exact ⟨rfl, Bu (Bu HW0.out HB6.out Lr) HB8.out Lr⟩
  ·skip
   have gd0 := Gd.new n (by omega) hcn2
   have ho := open_any ds2 gd0
   have hrr := Ns.newDD_rr n ⟨by omega, hcn2⟩
   have hrn := fun W => Ns.rnew_any n0 W
   rw [HCN.out] at hrn
   have HG0 := Hf gd0
   clear gd0 ds2 hsm hcn1 hcn2
   go_wp2_with fail
   refine ho.mono ?_; rintro e w3 ⟨b, ab0, FA0, rfl, du0, hb0, _, _⟩
   have HDU := Hf du0
   clear ho du0 hb0
   go_wp2_with fail
   refine (hrn _).mono ?_; rintro e w4 ⟨h0, rfl, xd4, hnb4, hb4⟩
   have HX4 := Hf xd4
   have hdo := dopen_any xd4 hrr HG0.out
   have HDU4 := Hf (HDU.out.keep hb4)
   have HNB : Hid (∀ k, h0.blk k → w3.heap.size ≤ k) := Hf hnb4
   have H34 := Hf hb4.size
   have HMI := Hf HDU.out.mine
   clear hrn xd4 hb4 hnb4 HDU
   go_wp2_with fail
   refine hdo.mono ?_; rintro e w5 ⟨a5, c5, rfl, xx5, hnb5, hb5⟩
   obtain ⟨W6, hst, hb6, hr6⟩ := box41 w5 ⟨h0, a5, c5⟩ (Ns.newDD n) { X0 with cut := false }
   obtain ⟨B, hBe⟩ := Nq (w5.heap.size)
   rw [hBe] at hst hr6
   have hs5 := hb5.size
   have HRL0 : Hid (RI w1 db n B b X0 W6) := Hf (by
    have hm : ∀ k, fpd b FA0 FD1 k → k < w3.heap.size := fun k hk => (HMI.out k hk).2
    have h34 := H34.out
    refine ⟨FA0, FD1, ab0, _, _, ⟨h0, a5, c5⟩, _, _, _, ⟨⟨(HDU4.out.keep hb5).keep hb6, HG0.out, xx5.keep hb6, HG0.out, fun k hk e => ?_⟩, hr6, fun e => ?_, fun e => ?_, ?_⟩⟩
    ·have h1 := hm k e
     rcases hk with hk | hk
     ·have := HNB.out k hk; omega
     ·have := hnb5 k hk; omega
    ·have := hm _ e; omega
    ·have := xx5.blt _ e; omega
    ·have := HDU4.out.bel.size; omega)
   have HBE := Hf hBe
   clear hdo xx5 hnb5 hb5 hb6 hr6 HDU4 HNB HMI hs5 hrr
   go_upto_region 6 with fail
   try rw [HBE.out]
   clear hst HBE hBe; go_wp2
   go_loopw [10] (fun i wr => ∃ (k : Nat) (x : X), k ≤ l.length ∧ i = .int .i64 k ∧ x.ep ≤ k ∧ RI w1 db n B b x wr) (fun i _ => l.length - (intOf i).toNat)
   case atStart => exact ⟨0, X0, Nat.zero_le _, rfl, Nat.le_refl _, HRL0.out⟩
   case round =>
    obtain ⟨k, x, hk, rfl, hep, hri⟩ := hrel
    clear HRL0
    by_cases hlt : k < l.length
    ·skip
     obtain ⟨FA, FD, ab, P, rs, H, Dv, Q, qs, hrl⟩ := hri
     obtain ⟨g0, off, rfl, c0, c1, c2, c3, c4, c5, c6⟩ := getD (HAT.out.keep hrl.pp.du.bel) k hlt
     clear c0 c1 c2 c3 c4 c5 c6
     obtain ⟨d', HDE⟩ : ∃ d', Hid (l[k] = d') := ⟨_, Hf rfl⟩
     obtain ⟨c0, c1, c2, c3, c4, c5, c6⟩ := getE (HAT.out.keep hrl.pp.du.bel) k hlt d' HDE.out
     have HOKD : Hid d'.ok := Hf (by rw [← HDE.out]; exact HOKS.out _ (List.getElem_mem _))
     have HG1 : Hid (g0 < w1.heap.size) := Hf (by
      obtain ⟨y0, _⟩ := getE HAT.out k hlt d' HDE.out
      exact World.block_lt_of_cell? w1 _ y0)
     have HGF : Hid (¬ fpd b FA FD g0) := Hf fun e => by have := (hrl.pp.du.mine g0 e).1; have := HG1.out; omega
     have HG0 : Hid (g0 < wr.heap.size) := Hf (by have := hrl.pp.du.bel.size; have := HG1.out; omega)
     have HSD : Hid (SD B H Dv x g0 (off + k * 7) d' wr) := Hf ⟨hrl.rb, c0, c1, c2, c3, c4, c5, c6⟩
     have HRL := Hf hrl
     have HEPK := Hf hep
     have HEPX : Hid (x.ep < 2147483647) := Hf (by have := HFW.out.l; omega)
     have hki : (k : Int) < (l.length : Int) := by omega
     clear hrl hep
     by_cases hk3 : d'.k < 3
     ·have hkd : decide (d'.k < 3) = true := decide_eq_true hk3
      clear hk3
      go_upto_if 58 with fail
      clear hkd
      have hkt : True := trivial
      have HDO : Hid (∀ W, Below wr.heap.size wr W → Calls Tryz.prog 13 #[ptr b, .agg (dvv H Dv x), .agg #[.int .i64 d'.k, .int .i64 d'.v.s, .int .i64 d'.v.b.i, .int .i64 d'.v.b.t, .string d'.v.v, .int .i64 d'.st, .int .u64 (d'.kp : Int)]] W (DoL w1 W FA FD b ab db n H (dox n x d'))) := Hf fun W hW => do_walk (HRL.out.pp.keep hW) d' HOKD.out HNS.out HEPX.out
      obtain ⟨x2, hx2⟩ := Nq (dox n x d')
      rw [hx2] at HDO
      have HX2 := Hf hx2
      have HEP2 : Hid (x2.ep ≤ k + 1) := Hf (by have h1 := dox_ep n x d'; rw [hx2] at h1; have h2 := HEPK.out; omega)
      have HS : Hid (∀ wq : World, SD B H Dv x g0 (off + k * 7) d' wq → (ld41 ⟨B, 0, none⟩).run Tryz.prog wq = .ok (dvv H Dv x) wq ∧ wq.cell? ⟨g0, off + k * 7, none⟩ = some (.int .i64 d'.k) ∧ wq.cell? ⟨g0, off + k * 7 + 1, none⟩ = some (.int .i64 d'.v.s) ∧ wq.cell? ⟨g0, off + k * 7 + 2, none⟩ = some (.int .i64 d'.v.b.i) ∧ wq.cell? ⟨g0, off + k * 7 + 3, none⟩ = some (.int .i64 d'.v.b.t) ∧ wq.cell? ⟨g0, off + k * 7 + 4, none⟩ = some (.string d'.v.v) ∧ wq.cell? ⟨g0, off + k * 7 + 5, none⟩ = some (.int .i64 d'.st) ∧ wq.cell? ⟨g0, off + k * 7 + 6, none⟩ = some (.int .u64 (d'.kp : Int))) := Hf fun wq h => ⟨load41_row h.1, h.2⟩
      clear hx2 c0 c1 c2 c3 c4 c5 c6
      go_upto_region 12 with fail
      go_cut [11, 12] from 59 to 68 (fun p q wx => ∃ bz FA6 FD6 P6 rs6 H6 D6 Q6 qs6, p = ptr bz ∧ q = .bool true ∧ wx.heap[bz]? = some (.cells (dvv H6 D6 x2) 41 (0, 0)) ∧ PP w1 wx FA6 FD6 b ab db n P6 x2 rs6 H6 D6 Q6 qs6 ∧ wx.heap[B]? = some (.cells (dvv H Dv x) 41 (0, 0)) ∧ ¬ fpd b FA6 FD6 B ∧ ¬ H6.blk B)
      case first =>
       refine wp_region_held_drew (S := SD B H Dv x g0 (off + k * 7) d') (by kernel_rfl) HSD.out fun Hl => ?_
       obtain ⟨wdx, hwdx⟩ := Nq (wr.drew)
       have hBwd : Below wr.heap.size wr wdx := by rw [← hwdx]; exact Below.drew (Below.refl _ _)
       rw [hwdx] at Hl ⊢; clear hwdx
       refine Tm 0 ?pA ?vA Hl ?rA
       refine Tk 1 ?pB ?vB ?yB Hl ?rB
       case yB => intro q h; obtain ⟨zl, y0, y1, y2, y3, y4, y5, y6⟩ := HS.out q h; go_simp; try with_reducible rfl
       refine Tm 2 ?pC ?vC Hl ?rC
       refine Tm 3 ?pD ?vD Hl ?rD
       refine Tm 4 ?pE ?vE Hl ?rE
       refine Tk 5 ?pF ?vF ?yF Hl ?rF
       case yF => intro q h; obtain ⟨zl, y0, y1, y2, y3, y4, y5, y6⟩ := HS.out q h; go_simp; try with_reducible rfl
       simp only [Act.put, Pa, Pb, Pc]
       refine Rn [6, 10] (Rc ?pG ?sG (Rc ?pH ?sH AllReadyH.nil))
       case sG =>
        intro K hK; go_simp
        refine (HDO.out _ hBwd).mono ?_; rintro e v6 ⟨FA6, FD6, P6, rs6, H6, D6, Q6, qs6, rfl, pp6, fr6, nw6⟩
        obtain ⟨rB6, nB6, nH6, nx6⟩ := HRL.out.did hBwd pp6 fr6 nw6
        have sd6 : SD B H Dv x g0 (off + k * 7) d' v6 := Hl.of (rB6.trans Hl.1.symm) (fr6.block g0 Hl.lt.2 HGF.out)
        refine hK.out _ _ sd6 fun Hl => ?_; clear hK K
        refine Tm 7 ?pI ?vI Hl ?rI
        refine Tm 8 ?pJ ?vJ Hl ?rJ
        refine Tm 9 ?pK ?vK Hl ?rK
        simp only [Act.put, Pa, Pb, Pc]
        refine Rd 10 ?pL ?sL
        intro K hK; go_simp
        obtain ⟨wa, hwa⟩ := Nq (v6.alloc (.cells Z13 41))
        rw [hwa]
        have hba : Below v6.heap.size v6 wa := by rw [← hwa]; exact bel1 _ _
        have hz : wa.heap[v6.heap.size]? = some (.cells Z13 41 (0, 0)) := by rw [← hwa]; exact heap_alloc_last _ _
        obtain ⟨bz, hbz⟩ := Nq (v6.heap.size)
        have hbzW : wr.heap.size ≤ bz := by rw [← hbz]; exact Nat.le_trans hBwd.size fr6.size
        have hbzE : v6.heap.size ≤ bz := by rw [← hbz]; exact Nat.le_refl _
        rw [hbz] at hz ⊢
        have sda := Hl.keep hba
        clear hwa hbz
        have nz1 : ¬ fpd b FA6 FD6 bz := fun e => by have := pp6.mine bz e; omega
        have nz2 : ¬ H6.blk bz := fun e => by have := pp6.xx.blt bz e; omega
        have pp6 := pp6.keep hba
        have hz6 := hz
        have hst := store41_row rfl H6 D6 x2 hz6
        have rB6 := Br rB6 hba
        refine hK.out _ _ sda fun Hl => ?_; clear hK K
        refine Rd 11 ?pM ?sM
        intro K hK; go_simp
        obtain ⟨ws, hws⟩ := Nq (wa.setRow bz (dvv H6 D6 x2))
        have hz7 := setRow_heap _ _ _ (dvv H6 D6 x2) _ _ hz6
        have pp7 := pp6.row bz (dvv H6 D6 x2) nz1 nz2 (by have := HRL.out.lo; have := HRL.out.blt; omega)
        have hlt := HRL.out.blt
        have rB7 := (setRow_other wa bz B (dvv H6 D6 x2) (by omega)).trans rB6
        have sd7 : SD B H Dv x g0 (off + k * 7) d' (wa.setRow bz (dvv H6 D6 x2)) := Hl.of (setRow_other _ _ _ _ (by omega)) (setRow_other _ _ _ _ (by have := HG0.out; omega))
        rw [hws] at hz7 pp7 rB7 sd7 ⊢; clear hws
        refine hK.out _ _ sd7 fun Hl => ?_; clear hK K
        refine Tm 12 ?pN ?vN Hl ?rN
        simp only [Act.put, Pa, Pb, Pc]
        refine wpAnyH_done (by kernel_rfl) ?_ _
        clear HS
        go_wp2_with fail
        go_meet
        case rel => exact ⟨bz, FA6, FD6, P6, rs6, H6, D6, Q6, qs6, rfl, rfl, hz7, pp7, rB7, nB6, nH6⟩
       case sH =>
        intro K hK; go_simp
        obtain ⟨wa, hwa⟩ := Nq (wdx.alloc (.cells Z13 41))
        rw [hwa]
        have hba : Below wdx.heap.size wdx wa := by rw [← hwa]; exact bel1 _ _
        have hz : wa.heap[wdx.heap.size]? = some (.cells Z13 41 (0, 0)) := by rw [← hwa]; exact heap_alloc_last _ _
        obtain ⟨bz, hbz⟩ := Nq (wdx.heap.size)
        have hbzW : wr.heap.size ≤ bz := by rw [← hbz]; exact hBwd.size
        have hbzE : wdx.heap.size ≤ bz := by rw [← hbz]; exact Nat.le_refl _
        rw [hbz] at hz ⊢
        have sda := Hl.keep hba
        clear hwa hbz
        refine hK.out _ _ sda fun Hl => ?_; clear hK K
        refine Rd 6 ?pO ?sO
        intro K hK; go_simp
        refine (HDO.out _ (Bu hBwd hba Lr)).mono ?_; rintro e v6 ⟨FA6, FD6, P6, rs6, H6, D6, Q6, qs6, rfl, pp6, fr6, nw6⟩
        obtain ⟨rB6, nB6, nH6, nx6⟩ := HRL.out.did (Bu hBwd hba Lr) pp6 fr6 nw6
        have sd6 : SD B H Dv x g0 (off + k * 7) d' v6 := Hl.of (rB6.trans Hl.1.symm) (fr6.block g0 Hl.lt.2 HGF.out)
        have hz6 := (nx6 bz hbzW (Array.getElem?_eq_some_iff.1 hz).1).2.2.trans hz
        have nbz := nx6 bz hbzW (Array.getElem?_eq_some_iff.1 hz).1
        have nz1 := nbz.1
        have nz2 := nbz.2.1
        have hst := store41_row rfl H6 D6 x2 hz6
        refine hK.out _ _ sd6 fun Hl => ?_; clear hK K
        refine Tm 7 ?pP ?vP Hl ?rP
        refine Tm 8 ?pQ ?vQ Hl ?rQ
        refine Tm 9 ?pR ?vR Hl ?rR
        simp only [Act.put, Pa, Pb, Pc]
        refine Rd 11 ?pS ?sS
        intro K hK; go_simp
        obtain ⟨ws, hws⟩ := Nq (v6.setRow bz (dvv H6 D6 x2))
        have hz7 := setRow_heap _ _ _ (dvv H6 D6 x2) _ _ hz6
        have pp7 := pp6.row bz (dvv H6 D6 x2) nz1 nz2 (by have := HRL.out.lo; have := HRL.out.blt; omega)
        have hlt := HRL.out.blt
        have rB7 := (setRow_other v6 bz B (dvv H6 D6 x2) (by omega)).trans rB6
        have sd7 : SD B H Dv x g0 (off + k * 7) d' (v6.setRow bz (dvv H6 D6 x2)) := Hl.of (setRow_other _ _ _ _ (by omega)) (setRow_other _ _ _ _ (by have := HG0.out; omega))
        rw [hws] at hz7 pp7 rB7 sd7 ⊢; clear hws
        refine hK.out _ _ sd7 fun Hl => ?_; clear hK K
        refine Tm 12 ?pT ?vT Hl ?rT
        simp only [Act.put, Pa, Pb, Pc]
        refine wpAnyH_done (by kernel_rfl) ?_ _
        clear HS
        go_wp2_with fail
        go_meet
        case rel => exact ⟨bz, FA6, FD6, P6, rs6, H6, D6, Q6, qs6, rfl, rfl, hz7, pp7, rB7, nB6, nH6⟩
      case rest =>
       obtain ⟨bz, FA6, FD6, P6, rs6, H6, D6, Q6, qs6, rfl, rfl, hz6, pp6, rB6, nB6, nH6⟩ := hcut
       have hld := load41_row hz6
       have hst := store41_row rfl H6 D6 x2 rB6
       have hrl := RL.set pp6 rB6 nB6 nH6 HRL.out.lo
       obtain ⟨W9, hW9⟩ := Nq (wc.setRow B (dvv H6 D6 x2))
       rw [hW9] at hrl hst
       have HRL2 := Hf hrl
       clear hrl hW9 hz6 pp6 rB6 nB6 nH6 HS HDO HSD
       go_upto_region 14 with fail
       clear hld hst; go_wp2
       go_roundw
       case rel => exact ⟨k + 1, x2, by omega, by go_num, HEP2.out, ⟨_, _, _, _, _, _, _, _, _, HRL2.out⟩⟩
       case measure => simp [intOf]; omega
     ·have hkd : decide (d'.k < 3) = false := decide_eq_false hk3
      have HEP2 : Hid (x.ep ≤ k + 1) := Hf (by have := HEPK.out; omega)
      clear hk3; go_wp2
      go_roundw
      case rel => exact ⟨k + 1, x, by omega, by go_num, HEP2.out, ⟨_, _, _, _, _, _, _, _, _, HRL.out⟩⟩
      case measure => simp [intOf]; omega
    ·obtain rfl : k = l.length := by omega
     obtain ⟨FA, FD, ab, P, rs, H, Dv, Q, qs, hrl⟩ := hri
     have hld := load41_row hrl.rb
     have hep2 : x.ep < 2147483647 := by have := HFW.out.l; omega
     have hc := dcp_any hrl.pp.xx hrl.pp.gq HNS.out hep2 (-1)
     have HRL := Hf hrl
     have HEPX := Hf hep2
     clear hrl hep hep2
     go_wp2_with fail
     refine hc.mono ?_; rintro e w3 ⟨H', D', Q', qs', rfl, hx3, hgq, hnw, hb3⟩
     obtain ⟨x2, hx2⟩ := Nq (ccx n x (-1))
     rw [hx2] at hx3 hgq ⊢
     obtain ⟨W4, hst, hb4, hr9⟩ := box41 w3 H' D' x2
     obtain ⟨b9, hb9⟩ := Nq (w3.heap.size)
     rw [hb9] at hst hr9
     have HB34 := Hf (Bu hb3 hb4 Lr)
     have HX4 := Hf (hx3.keep hb4)
     have HGQ := Hf hgq
     have HNW := Hf hnw
     have HR9 := Hf hr9
     have HBE := Hf hb9
     have HX2 := Hf hx2
     have H9L : Hid (wr.heap.size ≤ b9) := Hf (by rw [← hb9]; exact hb3.size)
     have hc2 := (HRL.out.keep HB34.out).pp.du.compact HRL.out.pp.gd HEPX.out (-1)
     clear hc hb3 hx3 hgq hnw hb4 hr9 hx2
     go_upto_region 17 with fail
     try rw [HBE.out]
     clear hst hld HBE hb9
     go_wp2_with fail
     refine hc2.mono ?_; rintro e v5 ⟨rfl, FA5, FD5, P5, rs5, du5, gd5, fr5⟩
     rw [HX2.out] at du5 gd5
     obtain ⟨pp5, fr6⟩ := HRL.out.pp.step HB34.out HNW.out HX4.out HGQ.out du5 gd5 fr5
     have hax : ∀ k, H.blk k → ¬ fpd b FA FD k := HRL.out.pp.ap
     have hxo := (HRL.out.pp.xx.keep HB34.out).step fr5 hax
     have hrB := (fr5.block B (by have := HRL.out.blt; have := HB34.out.size; omega) HRL.out.n1).trans (Br HRL.out.rb HB34.out)
     have hr5 := (fr5.block b9 (Array.getElem?_eq_some_iff.1 HR9.out).1 (fun e => by have := HRL.out.pp.mine b9 e; have := H9L.out; omega)).trans HR9.out
     have hae : x2.a = x.a := by rw [← HX2.out]; exact (ccx_any n x (-1)).1
     have HPP := Hf pp5
     have HBW5 := Hf (Bu HW0.out pp5.du.bel Lr)
     have HPM : Hid (∀ W, Below v5.heap.size v5 W → Calls Tryz.prog 16 #[ptr b] W fun e w' => e = .returned (bV x.a.p) ∧ Below W.heap.size W w') := Hf fun W hW => by
      rw [← hae]
      exact (pp5.du.keep hW).promised
     have HVT : Hid (∀ W, Below v5.heap.size v5 W → Calls Tryz.prog 21 #[ptr b, .int .i64 0] W fun e w' => ∃ ad c, e = .returned (.slice ad x.a.l.length c) ∧ XL vl w' ad c x.a.l ∧ (∀ j, blk ad j → W.heap.size ≤ j ∧ j < w'.heap.size) ∧ Below W.heap.size W w') := Hf fun W hW => by
      have h := (pp5.du.keep hW).votes 0
      rw [hae, HRL.out.pp.gd.aok.1.all] at h
      exact h
     have HRM : Hid (∀ W, Below v5.heap.size v5 W → Calls Tryz.prog 18 #[ptr b] W fun e w' => e = .returned (.int .i64 ((hf n - x2.us : Nat) : Int)) ∧ Below W.heap.size W w') := Hf fun W hW => (pp5.du.keep hW).room (by have := pp5.gd.n10; omega) pp5.gd.le
     have HDR : Hid (∀ W, Calls Tryz.prog 19 #[.agg (dvv H' D' x2)] W fun e w' => e = .returned (.int .i64 ((hf n - x2.us : Nat) : Int)) ∧ Below W.heap.size W w') := Hf fun W => droom_any pp5.xx.len.1 (by have := pp5.gd.n10; omega) pp5.gd.nle pp5.gd.le
     have HAX : Hid (∀ W, Below v5.heap.size v5 W → AtL vl W H.ad x.a.l) := Hf fun W hW => (hxo.xl.keep hW).at'
     have HLE : Hid (x.a.l.length ≤ 1000000) := Hf (by have := HRL.out.pp.gd.aok.1.len; omega)
     have HS : Hid (∀ w', Below v5.heap.size v5 w' → (ld41 ⟨b9, 0, none⟩).run Tryz.prog w' = .ok (dvv H' D' x2) w' ∧ w'.cell? ⟨B, 8, none⟩ = some (.int .i64 x.a.p.i) ∧ w'.cell? ⟨B, 9, none⟩ = some (.int .i64 x.a.p.t) ∧ w'.cell? ⟨B, 11, none⟩ = some (.slice H.ad x.a.l.length H.c)) := Hf fun w' hb => by
      obtain ⟨⟨_, _, _, _, _, _, _, _, z8, z9, z10, z11, _⟩, _⟩ := rowD (Br hrB hb)
      exact ⟨load41_row (Br hr5 hb), z8, z9, z11⟩
     have hq := eqs36 x.a.p.i x.a.p.t
     have hzz : (((hf n - x2.us : Nat) : Int) == ((hf n - x2.us : Nat) : Int)) = true := by simp
     clear hc2 du5 gd5 fr5 pp5 fr6 hax hxo hrB hr5 hae
     obtain ⟨g, hg⟩ := Nq (ccc n x (-1))
     rw [hg]; clear hg
     by_cases hg0 : g = 0
     ·subst hg0
      go_wp2_with fail
      refine wp_region_held_drew (S := fun wq => Below (v5).heap.size (v5) wq) (by kernel_rfl) (Below.drew (Below.refl _ _)) fun Hl => ?_
      obtain ⟨wdp, hwdp⟩ := Nq (v5.drew)
      have hBwd : Below v5.heap.size v5 wdp := by rw [← hwdp]; exact Below.drew (Below.refl _ _)
      rw [hwdp] at Hl ⊢; clear hwdp
      refine Tm 0 ?pU ?vU Hl ?rU
      simp only [Act.put, Pa, Pb, Pc]
      refine Tm 1 ?pV ?vV Hl ?rV
      simp only [Act.put, Pa, Pb, Pc]
      refine Tm 2 ?pW ?vW Hl ?rW
      simp only [Act.put, Pa, Pb, Pc]
      refine Tm 3 ?pX ?vX Hl ?rX
      simp only [Act.put, Pa, Pb, Pc]
      refine Tk 5 ?pY ?vY ?yY Hl ?rY
      case yY => intro q h; obtain ⟨zl, z8, z9, z11⟩ := HS.out q h; go_simp; try with_reducible rfl
      simp only [Act.put, Pa, Pb, Pc]
      refine Rd 4 ?pZ ?sZ
      intro K hK; go_simp
      refine (HRM.out _ Hl).mono ?_; rintro e v4 ⟨rfl, hb4⟩
      have B4 := Hl.trans (hb4.mono Hl.size)
      refine hK.out _ _ B4 fun Hl => ?_; clear hK K
      refine Rd 6 ?pa ?sa
      intro K hK; go_simp
      refine (HDR.out _).mono ?_; rintro e v6 ⟨rfl, hb6⟩
      have B6 := Hl.trans (hb6.mono Hl.size)
      refine hK.out _ _ B6 fun Hl => ?_; clear hK K
      refine Tm 7 ?pb ?vb Hl ?rb
      simp only [Act.put, Pa, Pb, Pc]
      refine Tm 8 ?pc ?vc Hl ?rc
      simp only [Act.put, Pa, Pb, Pc]
      refine Tm 9 ?pd ?vd Hl ?rd
      simp only [Act.put, Pa, Pb, Pc]
      refine Tm 10 ?pe ?ve Hl ?re
      simp only [Act.put, Pa, Pb, Pc]
      refine Tm 12 ?pf ?vf Hl ?rf
      simp only [Act.put, Pa, Pb, Pc]
      refine Tm 13 ?pg ?vg Hl ?rg
      simp only [Act.put, Pa, Pb, Pc]
      refine Tk 14 ?ph ?vh ?yh Hl ?rh
      case yh => intro q h; obtain ⟨zl, z8, z9, z11⟩ := HS.out q h; go_simp; try with_reducible rfl
      simp only [Act.put, Pa, Pb, Pc]
      refine Rd 11 ?pi ?si
      intro K hK; go_simp
      refine (HVT.out _ Hl).mono ?_; rintro e v11 ⟨a11, c11, rfl, hx11, _, hb11⟩
      have B11 := Hl.trans (hb11.mono Hl.size)
      refine hK.out _ _ B11 fun Hl => ?_; clear hK K
      refine Rd 15 ?pj ?sj
      intro K hK; go_simp
      refine (Na.same_any a11 c11 H.ad H.c _ _ HLE.out hx11.at' (HAX.out _ Hl)).mono ?_; rintro e v15 ⟨rfl, hb15⟩
      have B15 := Hl.trans (hb15.mono Hl.size)
      refine hK.out _ _ B15 fun Hl => ?_; clear hK K
      refine Tm 16 ?pk ?vk Hl ?rk
      simp only [Act.put, Pa, Pb, Pc]
      refine Tm 17 ?pl ?vl Hl ?rl
      simp only [Act.put, Pa, Pb, Pc]
      refine Tm 18 ?pm ?vm Hl ?rm
      simp only [Act.put, Pa, Pb, Pc]
      refine Tm 20 ?pn ?vn Hl ?rn
      simp only [Act.put, Pa, Pb, Pc]
      refine Tm 21 ?po ?vo Hl ?ro
      simp only [Act.put, Pa, Pb, Pc]
      refine Tk 22 ?pp ?vp ?yp Hl ?rp
      case yp => intro q h; obtain ⟨zl, z8, z9, z11⟩ := HS.out q h; go_simp; try with_reducible rfl
      simp only [Act.put, Pa, Pb, Pc]
      refine Rd 19 ?pq ?sq
      intro K hK; go_simp
      refine (HPM.out _ Hl).mono ?_; rintro e v19 ⟨rfl, hb19⟩
      have B19 := Hl.trans (hb19.mono Hl.size)
      refine hK.out _ _ B19 fun Hl => ?_; clear hK K
      refine Tm 23 ?pr ?vr Hl ?rr
      simp only [Act.put, Pa, Pb, Pc]
      refine Tm 24 ?ps ?vs Hl ?rs
      simp only [Act.put, Pa, Pb, Pc]
      refine Tm 25 ?pt ?vt Hl ?rt
      simp only [Act.put, Pa, Pb, Pc]
      refine Rd 26 ?pu ?su
      intro K hK; go_simp
      refine (awake_any _).mono ?_; rintro e v26 ⟨rfl, hb26⟩
      have B26 := Hl.trans (hb26.mono Hl.size)
      refine hK.out _ _ B26 fun Hl => ?_; clear hK K
      refine Tm 27 ?pv ?vv Hl ?rv
      simp only [Act.put, Pa, Pb, Pc]
      refine Tm 28 ?pw ?vw Hl ?rw
      simp only [Act.put, Pa, Pb, Pc]
      refine wpAnyH_done (by kernel_rfl) ?_ _
      have HBF := Hf (Bu HBW5.out Hl Lr)
      clear HS; go_wp2
      go_ret
      exact ⟨rfl, HBF.out⟩
     ·have hgn : (g != 0) = true := by simp [hg0]
      clear hg0
      go_wp2_with fail
      refine wp_region_held_drew (S := fun wq => Below (v5).heap.size (v5) wq) (by kernel_rfl) (Below.drew (Below.refl _ _)) fun Hl => ?_
      obtain ⟨wdq, hwdq⟩ := Nq (v5.drew)
      have hBwd : Below v5.heap.size v5 wdq := by rw [← hwdq]; exact Below.drew (Below.refl _ _)
      rw [hwdq] at Hl ⊢; clear hwdq
      refine Tm 0 ?px ?vx Hl ?rx
      simp only [Act.put, Pa, Pb, Pc]
      refine Tm 1 ?py ?vy Hl ?ry
      simp only [Act.put, Pa, Pb, Pc]
      refine Tm 2 ?pz ?vz Hl ?rz
      simp only [Act.put, Pa, Pb, Pc]
      refine Ts 3 ?p0 Hl ?r0
      simp only [Act.put, Pa, Pb, Pc]
      refine Ts 4 ?p1 Hl ?r1
      simp only [Act.put, Pa, Pb, Pc]
      refine Ts 5 ?p2 Hl ?r2
      simp only [Act.put, Pa, Pb, Pc]
      refine Ts 6 ?p3 Hl ?r3
      simp only [Act.put, Pa, Pb, Pc]
      refine Ts 7 ?p4 Hl ?r4
      simp only [Act.put, Pa, Pb, Pc]
      refine Tm 8 ?p5 ?v5 Hl ?r5
      simp only [Act.put, Pa, Pb, Pc]
      refine Tm 9 ?p6 ?v6 Hl ?r6
      simp only [Act.put, Pa, Pb, Pc]
      refine Tm 10 ?p7 ?v7 Hl ?r7
      simp only [Act.put, Pa, Pb, Pc]
      refine Tm 12 ?p8 ?v8 Hl ?r8
      simp only [Act.put, Pa, Pb, Pc]
      refine Tm 13 ?p9 ?v9 Hl ?r9
      simp only [Act.put, Pa, Pb, Pc]
      refine Tk 14 ?pBA ?vBA ?yBA Hl ?rBA
      case yBA => intro q h; obtain ⟨zl, z8, z9, z11⟩ := HS.out q h; go_simp; try with_reducible rfl
      simp only [Act.put, Pa, Pb, Pc]
      refine Rd 11 ?pBB ?sBB
      intro K hK; go_simp
      refine (HVT.out _ Hl).mono ?_; rintro e v11 ⟨a11, c11, rfl, hx11, _, hb11⟩
      have B11 := Hl.trans (hb11.mono Hl.size)
      refine hK.out _ _ B11 fun Hl => ?_; clear hK K
      refine Rd 15 ?pBC ?sBC
      intro K hK; go_simp
      refine (Na.same_any a11 c11 H.ad H.c _ _ HLE.out hx11.at' (HAX.out _ Hl)).mono ?_; rintro e v15 ⟨rfl, hb15⟩
      have B15 := Hl.trans (hb15.mono Hl.size)
      refine hK.out _ _ B15 fun Hl => ?_; clear hK K
      refine Tm 16 ?pBD ?vBD Hl ?rBD
      simp only [Act.put, Pa, Pb, Pc]
      refine Tm 17 ?pBE ?vBE Hl ?rBE
      simp only [Act.put, Pa, Pb, Pc]
      refine Tm 18 ?pBF ?vBF Hl ?rBF
      simp only [Act.put, Pa, Pb, Pc]
      refine Tm 20 ?pBG ?vBG Hl ?rBG
      simp only [Act.put, Pa, Pb, Pc]
      refine Tm 21 ?pBH ?vBH Hl ?rBH
      simp only [Act.put, Pa, Pb, Pc]
      refine Tk 22 ?pBI ?vBI ?yBI Hl ?rBI
      case yBI => intro q h; obtain ⟨zl, z8, z9, z11⟩ := HS.out q h; go_simp; try with_reducible rfl
      simp only [Act.put, Pa, Pb, Pc]
      refine Rd 19 ?pBJ ?sBJ
      intro K hK; go_simp
      refine (HPM.out _ Hl).mono ?_; rintro e v19 ⟨rfl, hb19⟩
      have B19 := Hl.trans (hb19.mono Hl.size)
      refine hK.out _ _ B19 fun Hl => ?_; clear hK K
      refine Tm 23 ?pBK ?vBK Hl ?rBK
      simp only [Act.put, Pa, Pb, Pc]
      refine Tm 24 ?pBL ?vBL Hl ?rBL
      simp only [Act.put, Pa, Pb, Pc]
      refine Tm 25 ?pBM ?vBM Hl ?rBM
      simp only [Act.put, Pa, Pb, Pc]
      refine Rd 26 ?pBN ?sBN
      intro K hK; go_simp
      refine (awake_any _).mono ?_; rintro e v26 ⟨rfl, hb26⟩
      have B26 := Hl.trans (hb26.mono Hl.size)
      refine hK.out _ _ B26 fun Hl => ?_; clear hK K
      refine Tm 27 ?pBO ?vBO Hl ?rBO
      simp only [Act.put, Pa, Pb, Pc]
      refine Tm 28 ?pBP ?vBP Hl ?rBP
      simp only [Act.put, Pa, Pb, Pc]
      refine wpAnyH_done (by kernel_rfl) ?_ _
      have HBF := Hf (Bu HBW5.out Hl Lr)
      clear HS; go_wp2
      go_ret
      exact ⟨rfl, HBF.out⟩
end Go.Proofs.YtlnedgjikkhplaaGreat.Du
