import Derived.Test.YtlnedgjikkhplaaGreatGP35
import Derived.ShutString
set_option maxRecDepth 100000
set_option maxHeartbeats 8000000
set_option linter.unusedVariables false
set_option linter.unusedSimpArgs false
namespace Go.Proofs.YtlnedgjikkhplaaGreat.Du
open Go.RowKit
open Na (Fr AS XL vl bV vV Hf bel1 bel2 Bu Br row2 row4 blk OwnL AtL)
open Na.M (E V S S0)
open Ns.M (ofL)
open Nc.M (enc encT)
theorem open_nil (w : World) : Calls Tryz.prog 10 #[.pointer none] w fun e w' => e = .returned (.tuple #[.pointer none, .int .i64 1]) ∧ w' = w := by
 go_enter Tryz.func10, Tryz.ntmps10
 go_wp2
 go_ret2
 exact ⟨rfl, rfl⟩
theorem open_small {w0 w : World} {F : Nat → Prop} {db n : Nat} {P : List Ns.M.Pl} {lost : Bool} (h : Ns.DS w0 w db F n P lost) (h9 : n < 10) : Calls Tryz.prog 10 #[ptr db] w fun e w' => e = .returned (.tuple #[.pointer none, .int .i64 1]) ∧ w' = w := by
 obtain ⟨v1, v2, hrow⟩ := h.row
 have hsec := sectors_any db n v1 v2 _ w hrow
 have hd10 : decide ((n : Int) < 10) = true := decide_eq_true (by omega)
 clear h hrow
 go_enter Tryz.func10, Tryz.ntmps10
 go_wp2_with fail
 refine hsec.mono ?_; rintro e w1 ⟨rfl, rfl⟩
 clear hsec; go_wp2
 go_ret2
 exact ⟨rfl, rfl⟩
theorem sec_one {e k : Nat} {r : R} (h : (body e k r).length ≤ 50) : sec e k r = 1 := by
 have h1 := raw_pos e k r
 have h2 : (raw e k r).length ≤ 64 := by
  unfold raw; rw [Nc.M.encT, List.length_append, sealed_len]
  have := Nc.M.enc_ten (((body e k r).length + 4 : Nat) : Int) ⟨by omega, by omega⟩
  omega
 unfold sec
 omega
theorem enc1 {n : Nat} (h : n < 64) : (enc (n : Int)).length = 1 := by
 have e : Nc.M.zz (n : Int) = 2 * n := by unfold Nc.M.zz; rw [if_neg (by omega)]; omega
 rw [Nc.enc_small (n : Int) (2 * n) e (by omega)]
 rfl
theorem encN {n : Int} (h : 0 ≤ n) (h2 : n < 2147483648) : (enc n).length ≤ 5 := by
 have e : Nc.M.zz n < 128 ^ (4 + 1) := by unfold Nc.M.zz; rw [if_neg (by omega)]; omega
 exact Nc.M.grp_len 4 _ e
theorem sec_pr {e k : Nat} {y : E} (he : e ≤ 2147483647) (hk : k ≤ 2147483647) (hv : Na.M.vld y = true) : sec e k (.pr y) = 1 := by
 apply sec_one
 have h1 := encN (n := (e : Int)) (by omega) (by omega)
 have h2 := encN (n := (k : Int)) (by omega) (by omega)
 unfold Na.M.vld at hv
 simp at hv
 have h3 := encN (n := y.i) (by omega) (by omega)
 have h4 := encN (n := y.t) (by omega) (by omega)
 simp only [body, kb, encB, List.length_append, List.length_cons]
 omega
theorem sec_tr {e k : Nat} {u : Int} (he : e ≤ 2147483647) (hk : k ≤ 2147483647) (hu : I64 u) : sec e k (.tr u) = 1 := by
 apply sec_one
 have h1 := encN (n := (e : Int)) (by omega) (by omega)
 have h2 := encN (n := (k : Int)) (by omega) (by omega)
 have h3 := enc_le hu
 simp only [body, kb, List.length_append, List.length_cons]
 omega
def v0 : V := ⟨2, ⟨1, 0⟩, ⟨#[120]⟩⟩
def a1 : S := ⟨⟨1, 0⟩, 0, [v0]⟩
def x1 : X := ⟨0, 0, 1, 1, false, a1⟩
def x2 : X := ⟨1, 1, 2, 2, false, a1⟩
theorem sec_v0 (e k : Nat) (he : e < 64) (hk : k < 64) : sec e k (.vo v0) = 1 := by
 apply sec_one
 have h1 := enc1 he
 have h2 := enc1 hk
 have h3 := enc1 (n := 2) (by omega)
 have h4 := enc1 (n := 1) (by omega)
 have h5 := enc1 (n := 0) (by omega)
 simp only [body, kb, encB, encT, v0, List.length_append, List.length_cons, List.length_nil]
 have e2 : ((2 : Nat) : Int) = 2 := rfl
 have e1 : ((1 : Nat) : Int) = 1 := rfl
 have e0 : ((0 : Nat) : Int) = 0 := rfl
 rw [e2] at h3; rw [e1] at h4; rw [e0] at h5
 show (enc (e : Int)).length + ((enc (k : Int)).length + (((enc 2).length + (((enc 1).length + (enc 0).length) + ((enc ((0 + 1 : Nat) : Int)).length + (0 + 1)))) + 1)) ≤ 50
 rw [h1, h2, h3, h4, h5, show ((0 + 1 : Nat) : Int) = 1 from rfl, h4]
 omega
theorem few_a1 : few a1 = [.vo v0, .pr ⟨1, 0⟩] := rfl
theorem acb0 : Na.M.acb S0 v0 = true := by decide
theorem acs0 : Na.M.acs S0 v0 = a1 := Na.M.acs_yes acb0
theorem rm0 : rm 30 X0 (.vo v0) = true := by
 unfold rm; rw [show sec X0.ep X0.n (.vo v0) = 1 from sec_v0 0 0 (by omega) (by omega)]
 rfl
theorem aw_acc : aab 30 X0 v0 = true ∧ aac 30 X0 v0 = 0 ∧ aax 30 X0 v0 = x1 := by
 have e1 : aab 30 X0 v0 = true := by
  unfold aab; rw [show Na.M.acb X0.a v0 = true from acb0, rm0]
  rfl
 refine ⟨e1, ?_, ?_⟩
 ·unfold aac
  rw [if_neg (by simp [X0]), if_neg (by rw [rm0]; simp)]
 ·unfold aax
  rw [if_pos ⟨e1, rfl⟩]; unfold addX; rw [show sec X0.ep X0.n (.vo v0) = 1 from sec_v0 0 0 (by omega) (by omega), show redo X0.a (.vo v0) = a1 from acs0]
  rfl
theorem secs_x1 : secs (x1.ep + 1) 0 (few x1.a) = 2 := by
 show secs 1 0 (few a1) = 2
 rw [few_a1, secs, secs, secs, sec_v0 1 0 (by omega) (by omega), sec_pr (by omega) (by omega) (by decide)]
theorem aw_cmp : ccc 30 x1 (-1) = 0 ∧ ccx 30 x1 (-1) = x2 := by
 have e0 : ccr 30 x1 = true := by
  unfold ccr; rw [secs_x1]
  rfl
 have e1 : ccs (-1) = false := by decide
 refine ⟨?_, ?_⟩
 ·unfold ccc
  rw [if_neg (by simp [x1]), if_neg (by rw [e0]; simp), if_neg (by rw [e1]; simp)]
 ·unfold ccx
  rw [if_neg (by rw [e0]; simp [x1]), if_neg (by rw [e1]; simp)]; unfold cmpX; rw [secs_x1, show few x1.a = [.vo v0, .pr ⟨1, 0⟩] from few_a1]
  rfl
theorem awake_any (w : World) : Calls Tryz.prog 8 #[] w fun e w' => e = .returned (.bool true) ∧ Below w.heap.size w w' := by
 have hnew := Ns.newD 30 w
 rw [show Ns.cntOf 30 = 30 from rfl] at hnew
 go_enter Tryz.func8, Tryz.ntmps8
 go_wp2_with fail
 refine hnew.mono ?_; rintro e w1 ⟨db, FD, rfl, hd1⟩
 have hg1 := Gd.new 30 (by omega) (by omega)
 have hop := open_any hd1 hg1
 clear hnew
 go_wp2_with fail
 refine hop.mono ?_; rintro e w2 ⟨b, ab, FA, rfl, hu2, _, _, _⟩
 have hu2 : DU w w2 FA FD b ab db 30 (Ns.new 30) X0 := hu2
 obtain ⟨W3, HW3⟩ := Nh (w2.alloc (.cells #[.int .i64 2, .int .i64 1, .int .i64 0, .string ⟨#[120]⟩] 48))
 have hb3 : Below w2.heap.size w2 W3 := by rw [← HW3.out]; exact bel1 w2 _
 have hr3 : W3.heap[w2.heap.size]? = some (.cells #[.int .i64 2, .int .i64 1, .int .i64 0, .string ⟨#[120]⟩] 48 (0, 0)) := by rw [← HW3.out]; exact heap_alloc_last w2 _
 obtain ⟨⟨c0, c1, c2, c3⟩, _⟩ := row4 hr3
 have hac := (hu2.keep hb3).accept hg1 v0
 have HR3 := Hf hr3
 have HN3 : Hid (¬ fpd b FA FD w2.heap.size) := fun e => by have := (hu2.mine _ e).2; omega
 have HDL : Hid (w.heap.size ≤ w2.heap.size) := hu2.bel.size
 clear hop hd1 hg1 hu2 hb3 hr3; unfold AaO at hac; rw [aw_acc.1, aw_acc.2.1, aw_acc.2.2] at hac
 go_upto_region 6 with fail
 rw [HW3.out]; clear HW3
 go_wp2_with fail
 refine hac.mono ?_; rintro e w4 ⟨rfl, FA4, FD4, P4, rs4, hu4, hg4, hf4⟩
 have hro := hu4.room (by omega) (by show 1 ≤ hf 30; decide)
 have HR4 : Hid (w4.heap[w2.heap.size]? = some (.cells #[.int .i64 2, .int .i64 1, .int .i64 0, .string ⟨#[120]⟩] 48 (0, 0))) := (hf4.block _ (Array.getElem?_eq_some_iff.1 HR3.out).1 HN3.out).trans HR3.out
 have HU4 := Hf hu4
 have HG4 := Hf hg4
 have HN4 : Hid (¬ FD4 w2.heap.size) := fun e => by
  rcases hf4.n _ (.inr (.inr e)) with h' | h'
  ·exact HN3.out h'
  ·have := (Array.getElem?_eq_some_iff.1 HR3.out).1; omega
 clear hac hu4 hg4 hf4 HR3 HN3 c0 c1 c2 c3; rw [show (hf 30 - x1.us : Nat) = 10 from rfl] at hro
 go_wp2_with fail
 refine hro.mono ?_; rintro e w5 ⟨rfl, hb5⟩
 have hcr := (HU4.out.keep hb5).d.crash 0 0 (by omega)
 have HR5 := Hf (Br HR4.out hb5)
 clear hro hb5 HU4 HR4
 go_wp2_with fail
 refine hcr.mono ?_; rintro e w6 ⟨FD6, rfl, d6, f6⟩
 have hg6 := HG4.out.crash 0
 have hop := open_any d6 hg6
 have HR6 : Hid (w6.heap[w2.heap.size]? = some (.cells #[.int .i64 2, .int .i64 1, .int .i64 0, .string ⟨#[120]⟩] 48 (0, 0))) := (f6.block _ (Array.getElem?_eq_some_iff.1 HR5.out).1 HN4.out).trans HR5.out
 have HN6 : Hid (¬ FD6 w2.heap.size) := fun e => by
  rcases f6.n _ e with h' | h'
  ·exact HN4.out h'
  ·have := (Array.getElem?_eq_some_iff.1 HR5.out).1; omega
 have HG6 : Hid (Gd 30 (Ns.M.crash P4 0 0) x1 rs4) := hg6
 clear hcr d6 f6 HG4 HR5 HN4 hg6
 go_wp2_with fail
 refine hop.mono ?_; rintro e w7 ⟨b7, ab7, FA7, rfl, hu7, hb7, hbb7, hn7⟩
 have hu7 : DU w w7 FA7 FD6 b7 ab7 db 30 (Ns.M.crash P4 0 0) x1 := hu7
 have hvt := hu7.votes 0
 rw [show Na.M.vts x1.a.l 0 = [v0] from rfl] at hvt
 have HR7 := Hf (Br HR6.out hb7)
 have hlt6 : w2.heap.size < w6.heap.size := (Array.getElem?_eq_some_iff.1 HR6.out).1
 have HN7 : Hid (¬ fpd b7 FA7 FD6 w2.heap.size) := by
  rintro (e | e | e)
  ·omega
  ·have := hn7 _ e; omega
  ·exact HN6.out e
 have HU7 := Hf hu7
 clear hop hu7 hb7 hbb7 hn7 HR6 HN6
 go_wp2_with fail
 refine hvt.mono ?_; rintro e w8 ⟨ad, c, rfl, hx8, hbk8, hb8⟩
 have hcp := (HU7.out.keep hb8).compact HG6.out (by show (0 : Nat) < _; omega) (-1)
 unfold CpO at hcp; rw [aw_cmp.1, aw_cmp.2] at hcp
 have HR8 := Hf (Br HR7.out hb8)
 have HX8 := Hf hx8
 have HAP : Hid (∀ k, blk ad k → ¬ fpd b7 FA7 FD6 k ∧ k < w8.heap.size) := fun k hk => ⟨fun e => by have := (HU7.out.mine k e).2; have := (hbk8 k hk).1; omega, (hbk8 k hk).2⟩
 clear hvt hx8 hbk8 hb8 HU7 HG6 HR7
 go_wp2_with fail
 refine hcp.mono ?_; rintro e w9a ⟨rfl, FA9, FD9, P9, rs9, hu9, hg9, hf9⟩
 have hop := open_any hu9.d hg9
 have hx9 := HX8.out.keepBut (w' := w9a) (fun k hk hk2 => hf9.block k hk (HAP.out k hk2).1)
 have hr9 := (hf9.block _ (Array.getElem?_eq_some_iff.1 HR8.out).1 HN7.out).trans HR8.out
 have HX9 := Hf hx9
 have HR9 := Hf hr9
 have HRS : Hid (x2.us ≤ hf 30) := hg9.le
 clear hcp hu9 hg9 hf9 hx9 hr9 HX8 HR8 HAP HN7
 go_wp2_with fail
 refine hop.mono ?_; rintro e w9 ⟨b9, ab9, FA9', rfl, hu9, hb9, _, _⟩
 have hu9 : DU w w9 FA9' FD9 b9 ab9 db 30 P9 x2 := hu9
 have honil := open_nil w9
 have hx := HX9.out.keep hb9
 have hr := Br HR9.out hb9
 obtain ⟨g, off, ead, _⟩ := hx.at'.getV 0 (by simp)
 subst ead
 have HS : Hid (∀ w', Below w9.heap.size w9 w' → (w'.cell? ⟨g, off, none⟩ = some (.int .i64 2) ∧ w'.cell? ⟨g, off + 1, none⟩ = some (.int .i64 1) ∧ w'.cell? ⟨g, off + 2, none⟩ = some (.int .i64 0) ∧ w'.cell? ⟨g, off + 3, none⟩ = some (.string ⟨#[120]⟩)) ∧ (w'.cell? ⟨w2.heap.size, 0, none⟩ = some (.int .i64 2) ∧ w'.cell? ⟨w2.heap.size, 1, none⟩ = some (.int .i64 1) ∧ w'.cell? ⟨w2.heap.size, 2, none⟩ = some (.int .i64 0) ∧ w'.cell? ⟨w2.heap.size, 3, none⟩ = some (.string ⟨#[120]⟩))) := by
  intro w' hb
  obtain ⟨g', off', e1, k0, k1, k2, k3⟩ := (hx.at'.keep hb).getV 0 (by simp)
  cases e1
  exact ⟨⟨k0, k1, k2, k3⟩, (row4 (Br hr hb)).1⟩
 have HPM : Hid (∀ w', Below w9.heap.size w9 w' → Calls Tryz.prog 16 #[ptr b9] w' fun e w'' => e = .returned (.agg #[.int .i64 1, .int .i64 0]) ∧ Below w'.heap.size w' w'') := fun w' hb => (hu9.keep hb).promised
 have HVT : Hid (∀ w', Below w9.heap.size w9 w' → Calls Tryz.prog 21 #[ptr b9, .int .i64 0] w' fun e w'' => ∃ ad c, e = .returned (.slice ad 1 c) ∧ XL vl w'' ad c [v0] ∧ (∀ j, blk ad j → w'.heap.size ≤ j ∧ j < w''.heap.size) ∧ Below w'.heap.size w' w'') := fun w' hb => (hu9.keep hb).votes 0
 have HRM : Hid (∀ w', Below w9.heap.size w9 w' → Calls Tryz.prog 18 #[ptr b9] w' fun e w'' => e = .returned (.int .i64 9) ∧ Below w'.heap.size w' w'') := fun w' hb => (hu9.keep hb).room (by omega) HRS.out
 have HBB := Hf hu9.bel
 clear hop hu9 hb9 hx hr HX9 HR9 HRS
 go_wp2_with fail
 refine honil.mono ?_; rintro e w10 ⟨rfl, hw10⟩
 obtain rfl := hw10.symm
 clear honil hw10
 go_upto_region 18 with fail
 refine wp_region_held_drew (S := fun wq => Below (w9).heap.size (w9) wq) (by kernel_rfl) (Below.drew (Below.refl _ _)) fun Hl => ?_
 refine Tm 0 ?pA ?vA Hl ?rA
 simp only [Act.put, Pa, Pb, Pc]
 refine Tm 1 ?pB ?vB Hl ?rB
 simp only [Act.put, Pa, Pb, Pc]
 refine Tm 2 ?pC ?vC Hl ?rC
 simp only [Act.put, Pa, Pb, Pc]
 refine Tm 3 ?pD ?vD Hl ?rD
 simp only [Act.put, Pa, Pb, Pc]
 refine Tm 4 ?pE ?vE Hl ?rE
 simp only [Act.put, Pa, Pb, Pc]
 refine Tm 5 ?pF ?vF Hl ?rF
 simp only [Act.put, Pa, Pb, Pc]
 refine Tm 6 ?pG ?vG Hl ?rG
 simp only [Act.put, Pa, Pb, Pc]
 refine Tm 7 ?pH ?vH Hl ?rH
 simp only [Act.put, Pa, Pb, Pc]
 refine Tm 8 ?pI ?vI Hl ?rI
 simp only [Act.put, Pa, Pb, Pc]
 refine Tm 9 ?pJ ?vJ Hl ?rJ
 simp only [Act.put, Pa, Pb, Pc]
 refine Tm 10 ?pK ?vK Hl ?rK
 simp only [Act.put, Pa, Pb, Pc]
 refine Tm 11 ?pL ?vL Hl ?rL
 simp only [Act.put, Pa, Pb, Pc]
 refine Tm 12 ?pM ?vM Hl ?rM
 simp only [Act.put, Pa, Pb, Pc]
 refine Tm 13 ?pN ?vN Hl ?rN
 simp only [Act.put, Pa, Pb, Pc]
 refine Tm 14 ?pO ?vO Hl ?rO
 simp only [Act.put, Pa, Pb, Pc]
 refine Tm 15 ?pP ?vP Hl ?rP
 simp only [Act.put, Pa, Pb, Pc]
 refine Tm 16 ?pQ ?vQ Hl ?rQ
 simp only [Act.put, Pa, Pb, Pc]
 refine Tk 17 ?pR ?vR ?yR Hl ?rR
 case yR => intro q h; obtain ⟨⟨z0, z1, z2, z3⟩, ⟨y0, y1, y2, y3⟩⟩ := HS.out q h; go_simp; try with_reducible rfl
 simp only [Act.put, Pa, Pb, Pc]
 refine Tk 18 ?pS ?vS ?yS Hl ?rS
 case yS => intro q h; obtain ⟨⟨z0, z1, z2, z3⟩, ⟨y0, y1, y2, y3⟩⟩ := HS.out q h; go_simp; try with_reducible rfl
 simp only [Act.put, Pa, Pb, Pc]
 refine Tm 19 ?pT ?vT Hl ?rT
 simp only [Act.put, Pa, Pb, Pc]
 refine Tm 20 ?pU ?vU Hl ?rU
 simp only [Act.put, Pa, Pb, Pc]
 refine Tm 21 ?pV ?vV Hl ?rV
 simp only [Act.put, Pa, Pb, Pc]
 refine Tm 22 ?pW ?vW Hl ?rW
 simp only [Act.put, Pa, Pb, Pc]
 refine Tm 23 ?pX ?vX Hl ?rX
 simp only [Act.put, Pa, Pb, Pc]
 refine Tm 24 ?pY ?vY Hl ?rY
 simp only [Act.put, Pa, Pb, Pc]
 refine Tm 25 ?pZ ?vZ Hl ?rZ
 simp only [Act.put, Pa, Pb, Pc]
 refine Tm 26 ?pa ?va Hl ?ra
 simp only [Act.put, Pa, Pb, Pc]
 refine Tm 28 ?pb ?vb Hl ?rb
 simp only [Act.put, Pa, Pb, Pc]
 refine Tk 29 ?pc ?vc ?yc Hl ?rc
 case yc => intro q h; obtain ⟨⟨z0, z1, z2, z3⟩, ⟨y0, y1, y2, y3⟩⟩ := HS.out q h; go_simp; try with_reducible rfl
 simp only [Act.put, Pa, Pb, Pc]
 refine Rd 27 ?pd ?sd
 intro K hK; go_simp
 refine (HPM.out _ Hl).mono ?_; rintro e u27 ⟨rfl, hb27⟩
 have B27 : Below w9.heap.size w9 u27 := Hl.trans (hb27.mono Hl.size)
 clear hb27
 refine hK.out _ _ B27 fun Hl => ?_; clear hK K
 refine Tm 30 ?pe ?ve Hl ?re
 simp only [Act.put, Pa, Pb, Pc]
 refine Tm 31 ?pf ?vf Hl ?rf
 simp only [Act.put, Pa, Pb, Pc]
 refine Tm 32 ?pg ?vg Hl ?rg
 simp only [Act.put, Pa, Pb, Pc]
 refine Tm 33 ?ph ?vh Hl ?rh
 simp only [Act.put, Pa, Pb, Pc]
 refine Rd 34 ?pi ?si
 intro K hK; go_simp
 refine (HVT.out _ Hl).mono ?_; rintro e u34 ⟨ad34, c34, rfl, _, _, hb34⟩
 have B34 : Below w9.heap.size w9 u34 := Hl.trans (hb34.mono Hl.size)
 clear hb34
 refine hK.out _ _ B34 fun Hl => ?_; clear hK K
 refine Tm 35 ?pj ?vj Hl ?rj
 simp only [Act.put, Pa, Pb, Pc]
 refine Tm 36 ?pk ?vk Hl ?rk
 simp only [Act.put, Pa, Pb, Pc]
 refine Tm 37 ?pl ?vl Hl ?rl
 simp only [Act.put, Pa, Pb, Pc]
 refine Tm 38 ?pm ?vm Hl ?rm
 simp only [Act.put, Pa, Pb, Pc]
 refine Tm 39 ?pn ?vn Hl ?rn
 simp only [Act.put, Pa, Pb, Pc]
 refine Rd 40 ?po ?so
 intro K hK; go_simp
 refine (HRM.out _ Hl).mono ?_; rintro e u40 ⟨rfl, hb40⟩
 have B40 : Below w9.heap.size w9 u40 := Hl.trans (hb40.mono Hl.size)
 clear hb40
 refine hK.out _ _ B40 fun Hl => ?_; clear hK K
 refine Tm 41 ?pp ?vp Hl ?rp
 simp only [Act.put, Pa, Pb, Pc]
 refine Tm 42 ?pq ?vq Hl ?rq
 simp only [Act.put, Pa, Pb, Pc]
 refine Tm 43 ?pr ?vr Hl ?rr
 simp only [Act.put, Pa, Pb, Pc]
 refine Tm 44 ?ps ?vs Hl ?rs
 simp only [Act.put, Pa, Pb, Pc]
 refine Tm 45 ?pt ?vt Hl ?rt
 simp only [Act.put, Pa, Pb, Pc]
 refine Tm 46 ?pu ?vu Hl ?ru
 simp only [Act.put, Pa, Pb, Pc]
 refine Tm 47 ?pv ?vv Hl ?rv
 simp only [Act.put, Pa, Pb, Pc]
 refine wpAnyH_done (by kernel_rfl) ?_ _
 go_wp2
 go_ret
 exact ⟨rfl, HBB.out.trans (Hl.mono HBB.out.size)⟩
end Go.Proofs.YtlnedgjikkhplaaGreat.Du
namespace Go.Proofs.YtlnedgjikkhplaaGreat.Du
open Go.RowKit
open Na (Fr AS XL vl bV vV Hf bel1 bel2 Bu Br row2 row4 blk OwnL AtL)
open Na.M (E V S S0)
open Go.ChangeShapes Go.WideShapes Go.ChangeAt
structure D where
 k : Int
 v : V
 st : Int
 kp : Nat
def D.ok (d : D) : Prop := d.v.v.size ≤ maxLen ∧ I64 d.v.s ∧ d.kp < 18446744073709551616
def dl : Na.Ly D := ⟨7, fun x => [.int .i64 x.k, .int .i64 x.v.s, .int .i64 x.v.b.i, .int .i64 x.v.b.t, .string x.v.v, .int .i64 x.st, .int .u64 (x.kp : Int)], fun _ => rfl, fun x v h => by simp at h; rcases h with rfl | rfl | rfl | rfl | rfl | rfl | rfl <;> rfl, by decide⟩
theorem getD {w : World} {a : Option Addr} {l : List D} (h : AtL dl w a l) (j : Nat) (hj : j < l.length) : ∃ b off, a = some ⟨b, off, none⟩ ∧ w.cell? ⟨b, off + j * 7, none⟩ = some (.int .i64 l[j].k) ∧ w.cell? ⟨b, off + j * 7 + 1, none⟩ = some (.int .i64 l[j].v.s) ∧ w.cell? ⟨b, off + j * 7 + 2, none⟩ = some (.int .i64 l[j].v.b.i) ∧ w.cell? ⟨b, off + j * 7 + 3, none⟩ = some (.int .i64 l[j].v.b.t) ∧ w.cell? ⟨b, off + j * 7 + 4, none⟩ = some (.string l[j].v.v) ∧ w.cell? ⟨b, off + j * 7 + 5, none⟩ = some (.int .i64 l[j].st) ∧ w.cell? ⟨b, off + j * 7 + 6, none⟩ = some (.int .u64 (l[j].kp : Int)) := by
 obtain ⟨b, off, e, h0⟩ := h j hj
 exact ⟨b, off, e, h0 0 (by decide), h0 1 (by decide), h0 2 (by decide), h0 3 (by decide), h0 4 (by decide), h0 5 (by decide), h0 6 (by decide)⟩
theorem wf_u64 {a : Int} (h : (Lit.int .u64 a).wf = true) : ∃ x : Nat, x < 18446744073709551616 ∧ a = (x : Int) := by
 simp [Lit.wf, IntKind.min, IntKind.max, IntKind.bits, IntKind.signed] at h
 exact ⟨a.toNat, by omega, by omega⟩
theorem wf_i64 {a : Int} (h : (Lit.int .i64 a).wf = true) : I64 a := by
 simp [Lit.wf, IntKind.min, IntKind.max, IntKind.bits, IntKind.signed] at h
 unfold I64
 omega
theorem own : ownKnob Tryz.prog.godebug = none := by kernel_rfl
theorem laidOut : laidOutB Tryz.prog = true := by kernel_rfl
theorem Tryz.cells3 : Tryz.prog.cellsOf 3 = 1 := by kernel_rfl
theorem Tryz.cells9 : Tryz.prog.cellsOf 9 = 1 := by kernel_rfl
theorem Tryz.cells36 : Tryz.prog.cellsOf 36 = 2 := by kernel_rfl
theorem Tryz.cells48 : Tryz.prog.cellsOf 48 = 4 := by kernel_rfl
theorem Tryz.cells50 : Tryz.prog.cellsOf 50 = 5 := by kernel_rfl
theorem Tryz.cells53 : Tryz.prog.cellsOf 53 = 7 := by kernel_rfl
theorem Tryz.cells51 : Tryz.prog.cellsOf 51 = 1 := by kernel_rfl
theorem spot_of {w : World} {a : Addr} {v : Value} (h : w.cell? (a.add 0) = some v) : a.spot = none := by
 have hs := World.cell?_spot h
 simpa [Addr.add] using hs
section
variable {H : Type} {enc : TypeId × Value → H} {w : World} {base : Nat} {spare : Nat → Bool} {held : Bool} {fuel : Nat}
theorem open_ballot {cs : List Value} {x : DataW H × List MemPlace} (h : DataW.trod enc Tryz.prog w base spare held fuel 36 cs = some x) : ∃ d : E, cs = Na.bl.cs d ∧ True := by
 obtain ⟨xs, n, rfl, hx, hl, hxs, hf⟩ := DataW.trod_struct Tryz.underlying36 h
 rw [Tryz.cells36] at hl
 obtain ⟨c0, c1, rfl⟩ : ∃ c0 c1, cs = [c0, c1] := by
  match cs, hl with
  | [a, b], _ => exact ⟨a, b, rfl⟩
 have hxs2 : xs.length = 2 := hxs
 obtain ⟨x0, x1, rfl⟩ : ∃ x0 x1, xs = [x0, x1] := by
  match xs, hxs2 with
  | [a, b], _ => exact ⟨a, b, rfl⟩
 have f0 : DataW.trod enc Tryz.prog w base spare held n 3 [c0] = some x0 := by have := hf 0 _ rfl; simpa [Tryz.cells3] using this
 have f1 : DataW.trod enc Tryz.prog w base spare held n 3 [c1] = some x1 := by have := hf 1 _ rfl; simpa [Tryz.cells3] using this
 obtain ⟨n0, e0, _, w0⟩ := DataW.trod_int Tryz.underlying3 f0
 obtain ⟨n1, e1, _, w1⟩ := DataW.trod_int Tryz.underlying3 f1
 simp only [List.cons.injEq, and_true] at e0 e1
 subst e0 e1
 exact ⟨⟨n0, n1⟩, rfl, trivial⟩
theorem open_vote {cs : List Value} {x : DataW H × List MemPlace} (h : DataW.trod enc Tryz.prog w base spare held fuel 48 cs = some x) : ∃ d : V, cs = vl.cs d ∧ d.v.size ≤ maxLen ∧ I64 d.s := by
 obtain ⟨xs, n, rfl, hx, hl, hxs, hf⟩ := DataW.trod_struct Tryz.underlying48 h
 rw [Tryz.cells48] at hl
 obtain ⟨c0, c1, c2, c3, rfl⟩ : ∃ c0 c1 c2 c3, cs = [c0, c1, c2, c3] := by
  match cs, hl with
  | [a, b, c, d], _ => exact ⟨a, b, c, d, rfl⟩
 have hxs2 : xs.length = 3 := hxs
 obtain ⟨x0, x1, x2, rfl⟩ : ∃ x0 x1 x2, xs = [x0, x1, x2] := by
  match xs, hxs2 with
  | [a, b, c], _ => exact ⟨a, b, c, rfl⟩
 have f0 : DataW.trod enc Tryz.prog w base spare held n 3 [c0] = some x0 := by have := hf 0 _ rfl; simpa [Tryz.cells3] using this
 have f1 : DataW.trod enc Tryz.prog w base spare held n 36 [c1, c2] = some x1 := by have := hf 1 _ rfl; simpa [Tryz.cells36] using this
 have f2 : DataW.trod enc Tryz.prog w base spare held n 9 [c3] = some x2 := by have := hf 2 _ rfl; simpa [Tryz.cells9] using this
 obtain ⟨n0, e0, _, w0⟩ := DataW.trod_int Tryz.underlying3 f0
 obtain ⟨d, e1, _⟩ := open_ballot f1
 obtain ⟨s3, e3, g3, w3⟩ := DataW.trod_string Tryz.underlying9 f2
 have e1' : [c1, c2] = [.int .i64 d.i, .int .i64 d.t] := e1
 simp only [List.cons.injEq, and_true] at e0 e1' e3
 obtain ⟨rfl, rfl⟩ := e1'
 subst e0 e3
 exact ⟨⟨n0, d, s3⟩, rfl, w3, wf_i64 w0⟩
theorem open_inner {cs : List Value} {x : DataW H × List MemPlace} (h : DataW.trod enc Tryz.prog w base spare held fuel 50 cs = some x) : ∃ (k : Int) (d : V), cs = [.int .i64 k, .int .i64 d.s, .int .i64 d.b.i, .int .i64 d.b.t, .string d.v] ∧ d.v.size ≤ maxLen ∧ I64 d.s := by
 obtain ⟨xs, n, rfl, hx, hl, hxs, hf⟩ := DataW.trod_struct Tryz.underlying50 h
 rw [Tryz.cells50] at hl
 obtain ⟨c0, c1, c2, c3, c4, rfl⟩ : ∃ c0 c1 c2 c3 c4, cs = [c0, c1, c2, c3, c4] := by
  match cs, hl with
  | [a, b, c, d, e], _ => exact ⟨a, b, c, d, e, rfl⟩
 have hxs2 : xs.length = 2 := hxs
 obtain ⟨x0, x1, rfl⟩ : ∃ x0 x1, xs = [x0, x1] := by
  match xs, hxs2 with
  | [a, b], _ => exact ⟨a, b, rfl⟩
 have f0 : DataW.trod enc Tryz.prog w base spare held n 3 [c0] = some x0 := by have := hf 0 _ rfl; simpa [Tryz.cells3] using this
 have f1 : DataW.trod enc Tryz.prog w base spare held n 48 [c1, c2, c3, c4] = some x1 := by have := hf 1 _ rfl; simpa [Tryz.cells48] using this
 obtain ⟨n0, e0, _, w0⟩ := DataW.trod_int Tryz.underlying3 f0
 obtain ⟨d, e1, hd⟩ := open_vote f1
 have e1' : [c1, c2, c3, c4] = [.int .i64 d.s, .int .i64 d.b.i, .int .i64 d.b.t, .string d.v] := e1
 simp only [List.cons.injEq, and_true] at e0 e1'
 obtain ⟨rfl, rfl, rfl, rfl⟩ := e1'
 subst e0
 exact ⟨n0, d, rfl, hd⟩
theorem open_deed {cs : List Value} {x : DataW H × List MemPlace} (h : DataW.trod enc Tryz.prog w base spare held fuel 53 cs = some x) : ∃ d : D, cs = dl.cs d ∧ d.ok := by
 obtain ⟨xs, n, rfl, hx, hl, hxs, hf⟩ := DataW.trod_struct Tryz.underlying53 h
 rw [Tryz.cells53] at hl
 obtain ⟨c0, c1, c2, c3, c4, c5, c6, rfl⟩ : ∃ c0 c1 c2 c3 c4 c5 c6, cs = [c0, c1, c2, c3, c4, c5, c6] := by
  match cs, hl with
  | [a, b, c, d, e, f, g], _ => exact ⟨a, b, c, d, e, f, g, rfl⟩
 have hxs2 : xs.length = 3 := hxs
 obtain ⟨x0, x1, x2, rfl⟩ : ∃ x0 x1 x2, xs = [x0, x1, x2] := by
  match xs, hxs2 with
  | [a, b, c], _ => exact ⟨a, b, c, rfl⟩
 have f0 : DataW.trod enc Tryz.prog w base spare held n 50 [c0, c1, c2, c3, c4] = some x0 := by have := hf 0 _ rfl; simpa [Tryz.cells50] using this
 have f1 : DataW.trod enc Tryz.prog w base spare held n 3 [c5] = some x1 := by have := hf 1 _ rfl; simpa [Tryz.cells3] using this
 have f2 : DataW.trod enc Tryz.prog w base spare held n 51 [c6] = some x2 := by have := hf 2 _ rfl; simpa [Tryz.cells51] using this
 obtain ⟨k, d, e0, hd⟩ := open_inner f0
 obtain ⟨n1, e1, _, w1⟩ := DataW.trod_int Tryz.underlying3 f1
 obtain ⟨n2, e2, _, w2⟩ := DataW.trod_int Tryz.underlying51 f2
 obtain ⟨kp, hkp, rfl⟩ := wf_u64 w2
 simp only [List.cons.injEq, and_true] at e0 e1 e2
 obtain ⟨rfl, rfl, rfl, rfl, rfl⟩ := e0
 subst e1 e2
 exact ⟨⟨k, d, n1, kp⟩, rfl, hd.1, hd.2, hkp⟩
theorem open_deeds {cs : List Value} {x : DataW H × List MemPlace} (h : DataW.trod enc Tryz.prog w base spare held fuel 22 cs = some x) :
  ∃ a len cap, ∃ l : List D, cs = [.slice a len cap] ∧ len = l.length ∧ AtL dl w a l ∧ l.length ≤ maxLen ∧ ∀ d ∈ l, d.ok := by
 rcases DataW.trod_slice Tryz.underlying22 h with ⟨hcs, _⟩ | ⟨a, len, cap, elems, rest, n, _, hcs, hx, hb, hl, hm, hlen, hel, hsp, hns⟩
 ·exact ⟨none, 0, 0, [], hcs, rfl, Na.AtL.nil _ _, Nat.zero_le _, by simp⟩
 ·have each : ∀ i, i < len → ∃ d : D, (∃ b off, some a = some (⟨b, off, none⟩ : Addr) ∧ ∀ o (ho : o < 7), w.cell? ⟨b, off + i * 7 + o, none⟩ = some ((dl.cs d)[o]'ho)) ∧ d.ok := by
   intro i hi
   have he := hel i hi
   rw [List.getElem?_eq_getElem (by omega), Option.bind_eq_some_iff, Tryz.cells53] at he
   obtain ⟨cs', hcs', ht⟩ := he
   obtain ⟨d, rfl, hwt⟩ := open_deed ht
   obtain ⟨_, _, hc⟩ := World.cells?_some hcs'
   refine ⟨d, ?_, ?_⟩
   ·have hsp : a.spot = none := by
     have he := hel 0 (by omega)
     rw [List.getElem?_eq_getElem (by omega), Option.bind_eq_some_iff, Tryz.cells53] at he
     obtain ⟨cs0, hcs0, _⟩ := he
     obtain ⟨_, hl0, hc0⟩ := World.cells?_some hcs0
     have q := hc0 0 (by omega)
     rw [Addr.add_add, List.getElem?_eq_getElem (by omega)] at q
     exact spot_of (by simpa using q)
    obtain ⟨b, off, sp⟩ := a
    simp only at hsp
    subst hsp
    refine ⟨b, off, rfl, fun o ho => ?_⟩
    have q := hc o (by omega)
    rw [Na.add_n, Na.add_n, List.getElem?_eq_getElem (show o < (dl.cs d).length from ho)] at q
    exact q
   ·exact hwt
  have ⟨f, hf⟩ : ∃ f : Nat → D, ∀ i, i < len → (∃ b off, some a = some (⟨b, off, none⟩ : Addr) ∧ ∀ o (ho : o < 7), w.cell? ⟨b, off + i * 7 + o, none⟩ = some ((dl.cs (f i))[o]'ho)) ∧ (f i).ok := by
   refine ⟨fun i => if h : i < len then Classical.choose (each i h) else ⟨0, ⟨0, ⟨0, 0⟩, ⟨#[]⟩⟩, 0, 0⟩, fun i hi => ?_⟩
   simp only [dif_pos hi]
   exact Classical.choose_spec (each i hi)
  refine ⟨some a, len, cap, (List.range len).map f, hcs, by simp, fun j hj => ?_, by simp; omega, fun d hd => ?_⟩
  ·rw [List.length_map, List.length_range] at hj
   simp only [List.getElem_map, List.getElem_range]
   exact (hf j hj).1
  ·obtain ⟨i, hi, rfl⟩ := List.mem_map.1 hd
   exact (hf i (List.mem_range.1 hi)).2
end
structure Few (n : Int) (l : List D) : Prop where
 n : n ≤ 300
 l : l.length ≤ 25
def FwO (n : Int) (l : List D) (w : World) (e : Ending) (w' : World) : Prop := (e = .returned (.int .i64 0) ∧ w' = w) ∨ (e = .returned (.int .i64 1) ∧ Few n l ∧ w' = w)
theorem few_any (n : Int) (a : Option Addr) (cap : Nat) (l : List D) (w : World) (hl : l.length ≤ maxLen) (hd : AtL dl w a l) (hok : ∀ d ∈ l, d.ok) :
  Calls Tryz.prog 7 #[.int .i64 n, .slice a l.length cap] w (FwO n l w) := by
 by_cases h25 : 25 < l.length
 ·go_enter Tryz.func7, Tryz.ntmps7
  go_wp2
  go_ret
  exact .inl ⟨rfl, rfl⟩
 ·by_cases hn : 300 < n
  ·have hd1 : decide ((25 : Int) < (l.length : Int)) = false := decide_eq_false (by omega)
   have hd2 : decide ((300 : Int) < n) = true := decide_eq_true hn
   go_enter Tryz.func7, Tryz.ntmps7
   go_wp2
   go_ret
   exact .inl ⟨rfl, rfl⟩
  ·have hd1 : decide ((25 : Int) < (l.length : Int)) = false := decide_eq_false (by omega)
   have hd2 : decide ((300 : Int) < n) = false := decide_eq_false hn
   have HOK := Hf hok
   have HK : Hid (Few n l) := ⟨by omega, by omega⟩
   clear hok
   go_enter Tryz.func7, Tryz.ntmps7
   go_wp2
   go_loopw [5] (fun i wr => ∃ k : Nat, k ≤ l.length ∧ i = .int .i64 k ∧ wr = w) (fun i _ => l.length - (intOf i).toNat)
   case atStart => exact ⟨0, by omega, rfl, rfl⟩
   case round =>
    obtain ⟨k, hk, rfl, rfl⟩ := hrel
    by_cases hlt : k < l.length
    ·obtain ⟨b, off, rfl, c0, c1, c2, c3, c4, c5, c6⟩ := getD hd k hlt
     have hsz : l[k].v.v.size ≤ 9223372036854775807 := by have := (HOK.out l[k] (List.getElem_mem hlt)).1; unfold maxLen at this; omega
     clear hd HOK
     generalize l[k].v.v = s at *
     generalize l[k].k = dk at *
     generalize l[k].v.s = dy at *
     generalize l[k].v.b.i = di at *
     generalize l[k].v.b.t = dt at *
     generalize l[k].st = ds at *
     generalize l[k].kp = dp at *
     by_cases h7 : 5000 < s.size
     ·have hdd : decide ((5000 : Int) < (s.size : Int)) = true := by simp; omega
      go_wp2
      go_ret
      exact .inl ⟨rfl, rfl⟩
     ·have hdd : decide ((5000 : Int) < (s.size : Int)) = false := by simp; omega
      go_wp2
      go_roundw
      case rel => exact ⟨k + 1, by omega, by go_num, by first | rfl | trivial⟩
      case measure => simp [intOf]; omega
    ·have hkn : k = l.length := by omega
     subst hkn; go_wp2
     go_ret
     exact .inr ⟨rfl, HK.out, rfl⟩
end Go.Proofs.YtlnedgjikkhplaaGreat.Du
namespace Go.Proofs.YtlnedgjikkhplaaGreat.Na
open Go.RowKit
open M (E V)
structure PS (w0 w : World) (F : Nat → Prop) (b : Nat) (a : M.S) (B : Nat) (d : M.S) (ad : Option Addr) (c : Nat) : Prop where
 pa : AS w0 w F b a
 xb : XB w (fun q => F q ∨ q = B) ad c d.l
 bx : BX w F B (.cells #[.int .i64 d.p.i, .int .i64 d.p.t, .int .i64 d.base, .slice ad d.l.length c] 39 (0, 0))
 lo : w0.heap.size ≤ B
 ln : d.l.length ≤ 1024
theorem fr_both {w w' : World} {F G : Nat → Prop} {B : Nat} (h : Fr w F w' G) : Fr w (fun q => F q ∨ q = B) w' (fun q => G q ∨ q = B) :=
 ⟨h.os, h.tape, h.output, h.size, fun k hk hn => h.block k hk (fun e => hn (.inl e)), fun k hk => by
  rcases hk with hk | hk
  ·rcases h.n k hk with h' | h'
   ·exact .inl (.inl h')
   ·exact .inr h'
  ·exact .inl (.inr hk)⟩
section
variable {w0 w w' : World} {F G : Nat → Prop} {b B c : Nat} {a a' d : M.S} {ad : Option Addr}
theorem PS.keep (h : PS w0 w F b a B d ad c) (hb : Below w.heap.size w w') : PS w0 w' F b a B d ad c := ⟨h.pa.keep hb, h.xb.up hb, h.bx.up hb, h.lo, h.ln⟩
theorem fr_B (w : World) (B : Nat) (x y z u : Value) : Fr w (fun j => j = B) (put4 w B x y z u) (fun j => j = B) := by
 have hg : (fun j => j = B) B := rfl
 exact fr_set (F := fun j => j = B) (fr_set (F := fun j => j = B) (fr_set (F := fun j => j = B) (fr_set (F := fun j => j = B) (Fr.refl w fun j => j = B) hg 0 x) hg 1 y) hg 2 z) hg 3 u
theorem prs_l (d : M.S) (x : E) (k : Int) : (M.prs d x k).l = d.l := by
 unfold M.prs
 split <;> rfl
end
end Go.Proofs.YtlnedgjikkhplaaGreat.Na
namespace Go.Proofs.YtlnedgjikkhplaaGreat.Du
open Go.RowKit
open Na (Fr AS XL vl bV vV Hf bel1 bel2 Bu Br row2 row4 blk OwnL AtL)
open Na.M (E V S S0)
structure Dc (w : World) (F : Nat → Prop) (B : Nat) (d : S) (ad : Option Addr) (c : Nat) : Prop where
 xb : Na.XB w (fun q => F q ∨ q = B) ad c d.l
 bx : Na.BX w F B (.cells #[.int .i64 d.p.i, .int .i64 d.p.t, .int .i64 d.base, .slice ad d.l.length c] 39 (0, 0))
 ln : d.l.length ≤ 1024
section
variable {w0 w w' : World} {F G FA FD FA' FD' : Nat → Prop} {b ab db n B c : Nat} {d : S} {ad : Option Addr} {P P' : List Ns.M.Pl} {x x' : X} {rs : List R}
theorem Dc.step (h : Dc w F B d ad c) (hF : Fr w F w' G) : Dc w' G B d ad c := ⟨h.xb.step (Na.fr_both hF), h.bx.step hF, h.ln⟩
theorem Dc.up (h : Dc w F B d ad c) (hb : Below w.heap.size w w') : Dc w' F B d ad c := h.step (Fr.ofBelow hb)
theorem Dc.new (h : Dc w F B d ad c) (hb : Below w.heap.size w w') (hG : ∀ k, G k → F k ∨ w.heap.size ≤ k) : Dc w' G B d ad c :=
 h.step ⟨hb.os, hb.tape, hb.output, hb.size, fun k hk _ => hb.block k hk, hG⟩
theorem Dc.lt (h : Dc w F B d ad c) : B < w.heap.size := (Array.getElem?_eq_some_iff.1 h.bx.row).1
theorem Dc.set (h : Dc w F B d ad c) {d' : S} {a2 : Option Addr} {c2 : Nat} (hx : Na.XB w (fun q => F q ∨ q = B) a2 c2 d'.l) (hl : d'.l.length ≤ 1024) :
  Dc (Na.put4 w B (.int .i64 d'.p.i) (.int .i64 d'.p.t) (.int .i64 d'.base) (.slice a2 d'.l.length c2)) F B d' a2 c2 := by
 have hF := Na.fr_B w B (.int .i64 d'.p.i) (.int .i64 d'.p.t) (.int .i64 d'.base) (.slice a2 d'.l.length c2)
 refine ⟨?_, ⟨Na.put4_row h.bx.row _ _ _ _, h.bx.ap⟩, hl⟩
 exact ⟨hx.xl.keepBut fun k hk hb => hF.block k hk (fun e => hx.ap k hb (.inr e)), fun k hk => Nat.lt_of_lt_of_le (hx.lt k hk) hF.size, hx.ap⟩
theorem DU.oth (h : DU w0 w FA FD b ab db n P x) (hF : Fr w (· = B) w' (· = B)) (hB : ¬ fpd b FA FD B) (lo : w0.heap.size ≤ B) : DU w0 w' FA FD b ab db n P x := by
 have hst := h.a.step hF (fun k hk e => hB (e ▸ .inr (.inl hk))) (fun k e => e ▸ lo)
 exact ⟨(hF.block b h.lt (fun e => hB (.inl e.symm))).trans h.row, hst.1, h.d.keepBut (fun k hk hk2 => hF.block k hk (fun e => hB (e ▸ .inr (.inr hk2)))) hst.1.bel, h.ap, h.na, h.nd, h.lo⟩
structure LS (w0 w : World) (FA FD : Nat → Prop) (b ab db n : Nat) (P : List Ns.M.Pl) (x : X) (rs : List R) (B : Nat) (ad : Option Addr) (c : Nat) : Prop where
 du : DU w0 w FA FD b ab db n P x
 gd : Gd n P x rs
 dc : Dc w (fpd b FA FD) B x.a ad c
 lo : w0.heap.size ≤ B
def LI (w0 : World) (db n B : Nat) (b : Nat) (x : X) (w : World) : Prop := ∃ FA FD ab P rs ad c, LS w0 w FA FD b ab db n P x rs B ad c
theorem LS.keep {ad : Option Addr} (h : LS w0 w FA FD b ab db n P x rs B ad c) (hb : Below w.heap.size w w') : LS w0 w' FA FD b ab db n P x rs B ad c := ⟨h.du.keep hb, h.gd, h.dc.up hb, h.lo⟩
theorem LS.set {ad : Option Addr} (hd : DU w0 w FA FD b ab db n P x) (hg : Gd n P x rs) (h : Dc w (fpd b FA FD) B d ad c) (lo : w0.heap.size ≤ B) {a2 : Option Addr} {c2 : Nat} {d' : S} (hx : Na.XB w (fun q => fpd b FA FD q ∨ q = B) a2 c2 d'.l) (e : x.a = d') :
  LS w0 (Na.put4 w B (.int .i64 d'.p.i) (.int .i64 d'.p.t) (.int .i64 d'.base) (.slice a2 d'.l.length c2)) FA FD b ab db n P x rs B a2 c2 := by
 subst e
 refine ⟨hd.oth (Na.fr_B _ _ _ _ _ _) h.bx.ap lo, hg, h.set hx ?_, lo⟩
 exact hg.aok.1.len
end
theorem ppx_no {n : Nat} {x : X} {y : E} {k : Int} (h : ppb n x y k = false) : ppx n x y k = x := by
 unfold ppx; rw [h, if_neg (by simp)]
theorem aax_no {n : Nat} {x : X} {v : V} (h : aab n x v = false) : aax n x v = x := by
 unfold aax; rw [h, if_neg (by simp)]
theorem ccx_any (n : Nat) (x : X) (steps : Int) : (ccx n x steps).a = x.a ∧ (ccx n x steps).ep ≤ x.ep + 1 := by
 unfold ccx
 split
 ·exact ⟨rfl, Nat.le_succ _⟩
 ·split
  ·exact ⟨rfl, Nat.le_succ _⟩
  ·exact ⟨rfl, Nat.le_refl _⟩
theorem eqs36 (i t : Int) (w : World) : (binOp .eql 36 (.agg #[.int .i64 i, .int .i64 t]) (.agg #[.int .i64 i, .int .i64 t])).run Tryz.prog w = .ok (.bool true) w := by
 have u3 := Tryz.underlying3
 have a3 := Tryz.isAgg3
 have z3 := Tryz.sizeOf3
 have hS2 : Tryz.prog.underlying 36 = some (.struct (Tryz.prog.fieldsOf 36)) := by kernel_rfl
 have hp2 : Tryz.prog.stoodInHeld 36 = false := by kernel_rfl
 rw [run_eql_struct, show (10000 : Nat) = 9999 + 1 from rfl, run_equalIn_agg w 9999 36 _ _ hS2 hp2]
 simp only [Program.fieldsOf, Tryz.underlying36]
 go_simp
theorem getE {w : World} {g off : Nat} {l : List D} (h : AtL dl w (some ⟨g, off, none⟩) l) (j : Nat) (hj : j < l.length) (d : D) (e : l[j] = d) : w.cell? ⟨g, off + j * 7, none⟩ = some (.int .i64 d.k) ∧ w.cell? ⟨g, off + j * 7 + 1, none⟩ = some (.int .i64 d.v.s) ∧ w.cell? ⟨g, off + j * 7 + 2, none⟩ = some (.int .i64 d.v.b.i) ∧ w.cell? ⟨g, off + j * 7 + 3, none⟩ = some (.int .i64 d.v.b.t) ∧ w.cell? ⟨g, off + j * 7 + 4, none⟩ = some (.string d.v.v) ∧ w.cell? ⟨g, off + j * 7 + 5, none⟩ = some (.int .i64 d.st) ∧ w.cell? ⟨g, off + j * 7 + 6, none⟩ = some (.int .u64 (d.kp : Int)) := by
 subst e
 obtain ⟨b, o, e, h⟩ := getD h j hj
 cases e
 exact h
end Go.Proofs.YtlnedgjikkhplaaGreat.Du
