import Derived.Test.YtlnedgjikkhplaaGreatGP21
set_option maxRecDepth 100000
set_option maxHeartbeats 8000000
set_option linter.unusedVariables false
set_option linter.unusedSimpArgs false
namespace Go.Proofs.YtlnedgjikkhplaaGreat.Du
open Go.RowKit
open Na (Fr AS XL vl bV vV Hf bel1 bel2 Bu Br row2 row4 blk OwnL AtL)
open Na.M (E V S S0)
open Ns.M (ofL)
section
variable {w0 w w' : World} {FA FD FA' FD' : Nat → Prop} {b ab db n : Nat} {P P' : List Ns.M.Pl} {x x' : X} {rs : List R}
def tri (a : S) : S := ⟨a.p, a.base, []⟩
theorem tri_of {a : S} (h : Na.M.Ok a) (hv : Vd a) : Na.M.prs (Na.M.trs S0 a.base) a.p a.base = tri a := by
 have h0 := h.b0
 have h1 := h.b1
 have e : Na.M.trs S0 a.base = ⟨⟨0, 0⟩, a.base, []⟩ := by
  unfold Na.M.trs S0; rw [show max (0 : Int) (min a.base 1024) = a.base by omega]
  rfl
 rw [e]
 have hb : Na.M.prb ⟨⟨0, 0⟩, a.base, []⟩ a.p a.base = true := by
  have := vld_ge hv.p
  unfold Na.M.prb Na.M.may; rw [hv.p, cmpE_flip ⟨0, 0⟩ a.p]
  simp
  omega
 rw [Na.M.prs_yes hb]
 rfl
theorem tri_prb (a : S) (y : E) (k : Int) : Na.M.prb (tri a) y k = Na.M.prb a y k := rfl
theorem tri_acb (a : S) (v : V) : Na.M.acb (tri a) v = Na.M.acb a v := rfl
def TrO (w : World) (a : S) (e : Ending) (w' : World) : Prop := ∃ tb F, e = .returned (ptr tb) ∧ AS w w' F tb (tri a)
theorem DU.trial (h : DU w0 w FA FD b ab db n P x) (hv : Vd x.a) : Calls Tryz.prog 56 #[ptr b] w (TrO w x.a) := by
 have HT : Hid (Na.M.prs (Na.M.trs S0 x.a.base) x.a.p x.a.base = tri x.a) := tri_of h.a.ok hv
 have hn := Na.newA_any w w (Below.refl _ _)
 have HH := Hf h
 clear h hv
 go_enter Tryz.func56, Tryz.ntmps56
 go_wp2_with fail
 refine hn.mono ?_; rintro e w1 ⟨tb, F1, rfl, a1, hb1, _⟩
 have hba := (HH.out.keep hb1).base
 have HA1 := Hf a1
 clear hn a1 hb1
 go_wp2_with fail
 refine hba.mono ?_; rintro e w2 ⟨rfl, rfl⟩
 have htr := HA1.out.trim x.a.base
 clear hba HA1
 go_wp2_with fail
 refine htr.mono ?_; rintro e w3 ⟨F3, rfl, a3, f3⟩
 have hpr := (HH.out.keep a3.bel).promised
 have HA3 := Hf a3
 clear htr a3 f3
 go_wp2_with fail
 refine hpr.mono ?_; rintro e w4 ⟨rfl, hb4⟩
 have HA4 := Hf (HA3.out.keep hb4)
 have hba := (HH.out.keep HA4.out.bel).base
 clear hpr hb4 HA3
 go_wp2_with fail
 refine hba.mono ?_; rintro e w5 ⟨rfl, rfl⟩
 have hpm := HA4.out.promise x.a.p x.a.base
 clear hba HA4
 go_wp2_with fail
 refine hpm.mono ?_; rintro e w6 ⟨ad, c, rfl, _, _, a6, _⟩
 rw [HT.out] at a6
 have HA6 := Hf a6
 clear hpm a6; go_wp2
 go_ret
 exact ⟨tb, F3, rfl, HA6.out⟩
def hs (l : List V) (v : V) : Bool := match Na.M.vts l v.s with
 | [] => false
 | y :: _ => Na.veq y.s y.b.i y.b.t y.v v.s v.b.i v.b.t v.v
theorem DU.has (h : DU w0 w FA FD b ab db n P x) (v : V) : Calls Tryz.prog 63 #[ptr b, vV v] w fun e w' => e = .returned (.bool (hs x.a.l v)) ∧ Below w.heap.size w w' := by
 obtain ⟨W1, HW1⟩ := Nh (w.alloc (.cells #[.int .i64 v.s, .int .i64 v.b.i, .int .i64 v.b.t, .string v.v] 48))
 have hb1 : Below w.heap.size w W1 := by rw [← HW1.out]; exact bel1 w _
 have hr1 : W1.heap[w.heap.size]? = some (.cells #[.int .i64 v.s, .int .i64 v.b.i, .int .i64 v.b.t, .string v.v] 48 (0, 0)) := by rw [← HW1.out]; exact heap_alloc_last w _
 obtain ⟨⟨c0, _⟩, _⟩ := row4 hr1
 have hvt := (h.keep hb1).votes v.s
 have hlen : (Na.M.vts x.a.l v.s).length ≤ 1024 := Nat.le_trans (Na.M.vts_le _ _) h.a.ok.len
 unfold hs
 obtain ⟨L, hL⟩ := Nq (Na.M.vts x.a.l v.s)
 rw [hL] at hvt hlen ⊢
 have HR1 := Hf hr1
 have HB1 := Hf hb1
 clear h hb1 hr1 hL
 go_enter Tryz.func63, Tryz.ntmps63
 go_upto_region 1 with fail
 rw [HW1.out]; clear HW1
 go_wp2_with fail
 refine hvt.mono ?_; rintro e w2 ⟨ad, c, rfl, hx2, _, hb2⟩
 have HB2 := Hf (Bu HB1.out hb2 Lr)
 have HR2 := Hf (Br HR1.out hb2)
 clear hvt hb2 HR1 HB1 c0
 cases L with
 | nil =>
  simp only [List.length_nil]
  ·skip
   have HS : Hid (∀ w', Below w2.heap.size w2 w' → True) := fun _ _ => trivial
   clear hx2 HR2
   go_upto_region 2 with fail
   refine wp_region_held_drew (S := fun wq => Below (w2).heap.size (w2) wq) (by kernel_rfl) (Below.drew (Below.refl _ _)) fun Hl => ?_
   refine Tm 0 ?pA ?vA Hl ?rA
   simp only [Act.put, Pa, Pb, Pc]
   refine Tm 1 ?pB ?vB Hl ?rB
   simp only [Act.put, Pa, Pb, Pc]
   refine Tm 2 ?pC ?vC Hl ?rC
   simp only [Act.put, Pa, Pb, Pc]
   refine Tm 3 ?pD ?vD Hl ?rD
   simp only [Act.put, Pa, Pb, Pc]
   refine Ts 4 ?pE Hl ?rE
   simp only [Act.put, Pa, Pb, Pc]
   refine Ts 5 ?pF Hl ?rF
   simp only [Act.put, Pa, Pb, Pc]
   refine Ts 6 ?pG Hl ?rG
   simp only [Act.put, Pa, Pb, Pc]
   refine Ts 7 ?pH Hl ?rH
   simp only [Act.put, Pa, Pb, Pc]
   refine Ts 8 ?pI Hl ?rI
   simp only [Act.put, Pa, Pb, Pc]
   refine Tm 9 ?pJ ?vJ Hl ?rJ
   simp only [Act.put, Pa, Pb, Pc]
   refine Tm 10 ?pK ?vK Hl ?rK
   simp only [Act.put, Pa, Pb, Pc]
   refine wpAnyH_done (by kernel_rfl) ?_ _
   go_wp2
   go_ret
   exact ⟨rfl, Bu HB2.out Hl Lr⟩
 | cons y r =>
  have hlp : decide (0 < ((y :: r).length : Int)) = true := by simp
  have hl0 : 0 < (y :: r).length := by simp
  simp only
  ·skip
   obtain ⟨g, off, rfl, _⟩ := hx2.at'.getV 0 (by simp)
   have HS : Hid (∀ w', Below w2.heap.size w2 w' → (w'.cell? ⟨g, off, none⟩ = some (.int .i64 y.s) ∧ w'.cell? ⟨g, off + 1, none⟩ = some (.int .i64 y.b.i) ∧ w'.cell? ⟨g, off + 2, none⟩ = some (.int .i64 y.b.t) ∧ w'.cell? ⟨g, off + 3, none⟩ = some (.string y.v)) ∧ (w'.cell? ⟨w.heap.size, 0, none⟩ = some (.int .i64 v.s) ∧ w'.cell? ⟨w.heap.size, 1, none⟩ = some (.int .i64 v.b.i) ∧ w'.cell? ⟨w.heap.size, 2, none⟩ = some (.int .i64 v.b.t) ∧ w'.cell? ⟨w.heap.size, 3, none⟩ = some (.string v.v)) ∧ (binOp .eql 48 (.agg #[.int .i64 y.s, .int .i64 y.b.i, .int .i64 y.b.t, .string y.v]) (.agg #[.int .i64 v.s, .int .i64 v.b.i, .int .i64 v.b.t, .string v.v])).run Tryz.prog w' = .ok (.bool (Na.veq y.s y.b.i y.b.t y.v v.s v.b.i v.b.t v.v)) w') := by
    intro w' hb
    obtain ⟨g', off', e1, k0, k1, k2, k3⟩ := (hx2.at'.keep hb).getV 0 (by simp)
    cases e1
    exact ⟨⟨k0, k1, k2, k3⟩, (row4 (Br HR2.out hb)).1, Na.ql33 _ _ _ _ _ _ _ _ _⟩
   clear hx2 HR2
   go_upto_region 2 with fail
   refine wp_region_held_drew (S := fun wq => Below (w2).heap.size (w2) wq) (by kernel_rfl) (Below.drew (Below.refl _ _)) fun Hl => ?_
   refine Tm 0 ?pL ?vL Hl ?rL
   simp only [Act.put, Pa, Pb, Pc]
   refine Tm 1 ?pM ?vM Hl ?rM
   simp only [Act.put, Pa, Pb, Pc]
   refine Tm 2 ?pN ?vN Hl ?rN
   simp only [Act.put, Pa, Pb, Pc]
   refine Tm 3 ?pO ?vO Hl ?rO
   simp only [Act.put, Pa, Pb, Pc]
   refine Tm 4 ?pP ?vP Hl ?rP
   simp only [Act.put, Pa, Pb, Pc]
   refine Tm 5 ?pQ ?vQ Hl ?rQ
   simp only [Act.put, Pa, Pb, Pc]
   refine Tk 6 ?pR ?vR ?yR Hl ?rR
   case yR => intro q h; obtain ⟨⟨y0, y1, y2, y3⟩, ⟨z0, z1, z2, z3⟩, hq48⟩ := HS.out q h; go_simp; try with_reducible rfl
   simp only [Act.put, Pa, Pb, Pc]
   refine Tk 7 ?pS ?vS ?yS Hl ?rS
   case yS => intro q h; obtain ⟨⟨y0, y1, y2, y3⟩, ⟨z0, z1, z2, z3⟩, hq48⟩ := HS.out q h; go_simp; try with_reducible rfl
   simp only [Act.put, Pa, Pb, Pc]
   refine wpAnyH_take (i := 8) (oi := ?pT) (v := .bool (Na.veq y.s y.b.i y.b.t y.v v.s v.b.i v.b.t v.v)) ?oT (by kernel_rfl) (by kernel_rfl) (by kernel_rfl) ?qT ?yT Hl ?rT
   case oT => simp only [List.getElem?_toArray, List.getElem?_cons_succ, List.getElem?_cons_zero]; rfl
   case qT => exact fun _ _ _ h => h
   case yT => (refine Or.inl ⟨rfl, ?_⟩; intro wq hq; obtain ⟨⟨y0, y1, y2, y3⟩, ⟨z0, z1, z2, z3⟩, hq48⟩ := HS.out wq hq; go_simp; unfold Na.veq; (repeat' split) <;> simp_all)
   simp only [Act.put, List.setIfInBounds_toArray, List.set_cons_zero, List.set_cons_succ]
   refine Tm 9 ?pU ?vU Hl ?rU
   simp only [Act.put, Pa, Pb, Pc]
   refine Tm 10 ?pV ?vV Hl ?rV
   simp only [Act.put, Pa, Pb, Pc]
   refine wpAnyH_done (by kernel_rfl) ?_ _
   go_wp2
   go_ret
   exact ⟨rfl, Bu HB2.out Hl Lr⟩
def AdY (w0 w : World) (FA FD : Nat → Prop) (b ab db n : Nat) (P : List Ns.M.Pl) (x : X) (r : R) (e : Ending) (w' : World) : Prop :=
 ∃ G, e = .returned (.int .i64 0) ∧ DU w0 w' FA G b ab db n (addP n P x r) { x with n := x.n + 1, us := x.us + sec x.ep x.n r } ∧ Fr w (fpd b FA FD) w' (fpd b FA G)
theorem write_ok {n : Nat} {P : List Ns.M.Pl} (a z : Nat) (s : ByteArray) (hs : s.size = z * 64) (hz : 1 ≤ z) (ha : a + z ≤ n) : Ns.M.wcode n false (a : Int) s = 0 ∧ Ns.M.wrote n false P (a : Int) s = Ns.M.wr P a s z := by
 have h1 : s.size / 64 = z := by rw [hs]; omega
 have hc : Ns.M.wcode n false (a : Int) s = 0 := by
  unfold Ns.M.wcode; rw [hs, decide_eq_true (show z * 64 % 64 = 0 by omega)]
  show Ns.M.refused n false (a : Int) ((z * 64 / 64 : Nat) : Int) = 0
  unfold Ns.M.refused; rw [decide_eq_false (show ¬ ((a : Int) < 0) by omega), decide_eq_false (show ¬ (((z * 64 / 64 : Nat) : Int) < 1) by omega), decide_eq_false (show ¬ ((a : Int) > (n : Int) - ((z * 64 / 64 : Nat) : Int)) by omega)]
  rfl
 refine ⟨hc, ?_⟩
 unfold Ns.M.wrote; rw [hc, h1, Int.toNat_natCast]
 rfl
theorem DU.add (h : DU w0 w FA FD b ab db n P x) (hg : Gd n P x rs) (r : R) (hr : Wf r) :
  Calls Tryz.prog 58 #[ptr b, rV r] w fun e w' => (sec x.ep x.n r ≤ hf n - x.us → AdY w0 w FA FD b ab db n P x r e w') ∧ (¬ sec x.ep x.n r ≤ hf n - x.us → e = .returned (.int .i64 5) ∧ Below w.heap.size w w') := by
 have hn := hg.n10
 have hnl := hg.nle
 have hnn := hg.nn
 have hep := hg.ep
 have hus := hg.le
 have har := hg.ar
 have hfl := hf_le n (by omega)
 have h3 := mul_le1 (h := hf n) har
 have HTX : Hid (∀ W, Calls Tryz.prog 108 #[.agg #[.int .i64 (rk r), .int .i64 (rsl r), .int .i64 (ri r), .int .i64 (rt r), .string (rvv r), .int .i64 (ru r)], .int .i64 x.ep, .int .i64 x.n] W fun e w' => e = .returned (.string (ofL (Du.rec x.ep x.n r))) ∧ Below W.heap.size W w') := fun W => by
  have := text_any x.ep x.n r W (by omega) (by omega) hr
  rw [rV, rcs_six] at this
  exact this
 have hsz : (ofL (Du.rec x.ep x.n r)).size = sec x.ep x.n r * 64 := by rw [Ns.M.ofL_size, rec_len]
 have hsp := sec_pos x.ep x.n r
 have hsl : sec x.ep x.n r ≤ 100 := by
  have := rec_le x.ep x.n r (by omega) (by omega) hr
  rw [rec_len] at this
  omega
 have HAD : Hid (addP n P x r = Ns.M.flush (Ns.M.wr P (8 + x.ar * hf n + x.us) (ofL (Du.rec x.ep x.n r)) (sec x.ep x.n r))) := rfl
 rw [rV, rcs_six]
 generalize rk r = z0 at *
 generalize rsl r = z1 at *
 generalize ri r = z2 at *
 generalize rt r = z3 at *
 generalize rvv r = z4 at *
 generalize ru r = z5 at *
 obtain ⟨W1, HW1⟩ := Nh (w.alloc (.cells #[.int .i64 z0, .int .i64 z1, .int .i64 z2, .int .i64 z3, .string z4, .int .i64 z5] 97))
 have hb1 : Below w.heap.size w W1 := by rw [← HW1.out]; exact bel1 w _
 have hr1 : W1.heap[w.heap.size]? = some (.cells #[.int .i64 z0, .int .i64 z1, .int .i64 z2, .int .i64 z3, .string z4, .int .i64 z5] 97 (0, 0)) := by rw [← HW1.out]; exact heap_alloc_last w _
 have hd1 := h.keep hb1
 have HS : Hid (∀ w', Below W1.heap.size W1 w' → (w'.cell? ⟨w.heap.size, 0, none⟩ = some (.int .i64 z0) ∧ w'.cell? ⟨w.heap.size, 1, none⟩ = some (.int .i64 z1) ∧ w'.cell? ⟨w.heap.size, 2, none⟩ = some (.int .i64 z2) ∧ w'.cell? ⟨w.heap.size, 3, none⟩ = some (.int .i64 z3) ∧ w'.cell? ⟨w.heap.size, 4, none⟩ = some (.string z4) ∧ w'.cell? ⟨w.heap.size, 5, none⟩ = some (.int .i64 z5)) ∧ w'.cell? ⟨b, 3, none⟩ = some (.int .i64 x.ep) ∧ w'.cell? ⟨b, 4, none⟩ = some (.int .i64 x.n)) := fun w' hb =>
  ⟨(row6 (Br hr1 hb)).1, (row7 (hd1.keep hb).row).1.2.2.2.1, (row7 (hd1.keep hb).row).1.2.2.2.2.1⟩
 have HD1 := Hf hd1
 have HB1 := Hf hb1
 clear h hg hb1 hr1 hd1 hr; unfold AdY; rw [HAD.out]; clear HAD
 generalize ofL (Du.rec x.ep x.n r) = T at *
 generalize sec x.ep x.n r = z at *
 have hq : ((z * 64 : Nat) : Int).tdiv 64 = (z : Int) := by rw [Int.tdiv_eq_ediv_of_nonneg (by omega)]; omega
 have hq2 : (z : Int) * 64 / 64 = (z : Int) := by omega
 have hq3 : ((z : Int) * 64).tdiv 64 = (z : Int) := by rw [Int.tdiv_eq_ediv_of_nonneg (by omega)]; omega
 go_enter Tryz.func58, Tryz.ntmps58
 go_upto_region 1 with fail
 rw [HW1.out]; clear HW1
 refine wp_region_held_drew (S := fun wq => Below (W1).heap.size (W1) wq) (by kernel_rfl) (Below.drew (Below.refl _ _)) fun Hl => ?_
 refine Tk 0 ?pL ?vL ?yL Hl ?rL
 case yL => intro q h; obtain ⟨⟨y0, y1, y2, y3, y4, y5⟩, q3, q4⟩ := HS.out q h; go_simp; try with_reducible rfl
 refine Tm 1 ?pM ?vM Hl ?rM
 refine Tm 2 ?pN ?vN Hl ?rN
 refine Tm 3 ?pO ?vO Hl ?rO
 refine Tk 4 ?pP ?vP ?yP Hl ?rP
 case yP => intro q h; obtain ⟨⟨y0, y1, y2, y3, y4, y5⟩, q3, q4⟩ := HS.out q h; go_simp; try with_reducible rfl
 refine Tm 5 ?pQ ?vQ Hl ?rQ
 refine Tm 6 ?pR ?vR Hl ?rR
 refine Tm 7 ?pS ?vS Hl ?rS
 refine Tk 8 ?pT ?vT ?yT Hl ?rT
 case yT => intro q h; obtain ⟨⟨y0, y1, y2, y3, y4, y5⟩, q3, q4⟩ := HS.out q h; go_simp; try with_reducible rfl
 simp only [Act.put, Pa, Pb, Pc]
 refine Rd 9 ?pU ?sU
 intro K hK; go_simp
 refine (HTX.out _).mono ?_; rintro e v9 ⟨rfl, hb9⟩
 have B9 : Below W1.heap.size W1 v9 := Hl.trans (hb9.mono Hl.size)
 clear hb9
 refine hK.out _ _ B9 fun Hl => ?_; clear hK K
 refine Tm 10 ?pV ?vV Hl ?rV
 simp only [Act.put, Pa, Pb, Pc]
 refine wpAnyH_done (by kernel_rfl) ?_ _
 obtain ⟨W2, hW2⟩ := Nq (v9)
 subst hW2
 have HB2 := Hf (Bu HB1.out Hl Lr)
 have HD2 := Hf (HD1.out.keep Hl)
 have hro := HD2.out.room (by omega) hus
 clear Hl HS HTX HD1 HB1
 have hzz : (T.size : Int) = (z : Int) * 64 := by rw [hsz]; omega
 go_wp2_with fail
 refine hro.mono ?_; rintro e w3 ⟨rfl, hb3⟩
 have HD3 := Hf (HD2.out.keep hb3)
 have HB3 := Hf (Bu HB2.out hb3 Lr)
 clear hro hb3 HD2 HB2
 by_cases hz : z ≤ hf n - x.us
 ·have hd : decide ((z : Int) > ((hf n - x.us : Nat) : Int)) = false := decide_eq_false (by omega)
  have hd' : decide (((hf n - x.us : Nat) : Int) < (z : Int)) = false := decide_eq_false (by omega)
  have HD3d : Hid (DU w0 w3.drew FA FD b ab db n P x) := HD3.out.keep (Below.refl _ _).drew
  have HSI : Hid (w3.drew.cell? ⟨b, 1, none⟩ = some (ptr db) ∧ w3.drew.cell? ⟨b, 2, none⟩ = some (.int .i64 x.ar) ∧ w3.drew.cell? ⟨b, 5, none⟩ = some (.int .i64 x.us)) := ⟨(row7 HD3d.out.row).1.2.1, (row7 HD3d.out.row).1.2.2.1, (row7 HD3d.out.row).1.2.2.2.2.2.1⟩
  have HFO := Hf (HD3d.out.firstOf (by omega) x.ar har)
  have hwo := write_ok (P := P) (n := n) (8 + x.ar * hf n + x.us) z T hsz hsp (by omega)
  have HWR : Hid (Calls Tryz.prog 71 #[ptr db, .int .i64 (((8 + x.ar * hf n : Nat) : Int) + (x.us : Int)), .string T] w3.drew fun e w' => ∃ G, e = .returned (.int .i64 0) ∧ Ns.DS w0 w' db G n (Ns.M.wr P (8 + x.ar * hf n + x.us) T z) false ∧ Ns.Ch w3.drew FD w' G) := by
   have := HD3d.out.d.write ((8 + x.ar * hf n + x.us : Nat) : Int) T (by omega)
   rw [hwo.1, hwo.2] at this
   exact this
  have HKS : Hid (∀ w' G, Ns.Ch w3.drew FD w' G → w'.cell? ⟨b, 1, none⟩ = some (ptr db) ∧ w'.cell? ⟨b, 2, none⟩ = some (.int .i64 x.ar) ∧ w'.cell? ⟨b, 5, none⟩ = some (.int .i64 x.us)) := fun w' G hF => by
   have hrw := (hF.block b HD3d.out.lt HD3d.out.nd).trans HD3d.out.row
   exact ⟨(row7 hrw).1.2.1, (row7 hrw).1.2.2.1, (row7 hrw).1.2.2.2.2.2.1⟩
  have HCD : Hid (∀ w' G, Ns.DS w0 w' db G n (Ns.M.wr P (8 + x.ar * hf n + x.us) T z) false → Ns.Ch w3.drew FD w' G → DU w0 w' FA G b ab db n (Ns.M.wr P (8 + x.ar * hf n + x.us) T z) x ∧ Fr w (fpd b FA FD) w' (fpd b FA G)) := fun w' G hd hF => by
   have h1 := HD3d.out.chD hd (Fr.ofCh hF)
   exact ⟨h1.1, (Fr.ofBelow (Bu HB3.out (Below.refl _ _).drew Lr)).trans h1.2⟩
  have hbd : 8 + x.ar * hf n ≤ 10000 := by omega
  clear hwo HD3 HD3d HB3
  generalize hA0 : 8 + x.ar * hf n = A0 at *
  have HA0 := Hf hA0
  clear hA0
  have hwr : IntKind.i64.wrap ((A0 : Int) + (x.us : Int)) = (A0 : Int) + (x.us : Int) := by rw [IntKind.wrap_i64]; omega
  go_upto_region 5 with fail
  refine wp_region_held_drew (S := (fun wq => wq.cell? ⟨b, 1, none⟩ = some (ptr db) ∧ wq.cell? ⟨b, 2, none⟩ = some (.int .i64 x.ar) ∧ wq.cell? ⟨b, 5, none⟩ = some (.int .i64 x.us))) (by kernel_rfl) HSI.out fun Hl => ?_
  refine Tm 0 ?pA ?vA Hl ?rA
  refine Tm 1 ?pB ?vB Hl ?rB
  refine Tm 2 ?pC ?vC Hl ?rC
  refine Tk 3 ?pD ?vD ?yD Hl ?rD
  case yD => intro wq hq; obtain ⟨y1, y2, y5⟩ := hq; go_simp; try with_reducible rfl
  refine Tm 4 ?pE ?vE Hl ?rE
  refine Tm 5 ?pF ?vF Hl ?rF
  refine Tm 6 ?pG ?vG Hl ?rG
  refine Tm 7 ?pH ?vH Hl ?rH
  refine Tk 8 ?pI ?vI ?yI Hl ?rI
  case yI => intro wq hq; obtain ⟨y1, y2, y5⟩ := hq; go_simp; try with_reducible rfl
  refine Tm 10 ?pK ?vK Hl ?rK
  refine Tm 11 ?pW ?vW Hl ?rW
  refine Tm 12 ?pX ?vX Hl ?rX
  refine Tk 13 ?pY ?vY ?yY Hl ?rY
  case yY => intro wq hq; obtain ⟨y1, y2, y5⟩ := hq; go_simp; try with_reducible rfl
  refine Tm 15 ?pZ ?vZ Hl ?rZ
  simp only [Act.put, Pa, Pb, Pc]
  refine Rd 9 ?pJ ?sJ
  intro K hK; go_simp
  refine HFO.out.mono ?_; rintro e v9 ⟨rfl, rfl⟩
  refine hK.out _ _ Hl fun Hl => ?_; clear hK K
  refine Tm 14 ?pa ?va Hl ?ra
  simp only [Act.put, Pa, Pb, Pc]
  refine Rd 16 ?pb ?sb
  intro K hK; go_simp
  refine HWR.out.mono ?_; rintro e v16 ⟨G, rfl, d16, f16⟩
  have hS := HKS.out _ _ f16
  have HQ := Hf (HCD.out _ _ d16 f16)
  clear d16 f16
  refine hK.out _ _ hS fun Hl => ?_; clear hK K
  refine Tm 17 ?pc ?vc Hl ?rc
  simp only [Act.put, Pa, Pb, Pc]
  refine wpAnyH_done (by kernel_rfl) ?_ _
  obtain ⟨hdu, hfr⟩ := HQ.out
  have hfl2 := hdu.d.flush
  obtain ⟨⟨_, k1, _⟩, _⟩ := row7 hdu.row
  have HDU := Hf hdu
  have HFR := Hf hfr
  clear hdu hfr HQ Hl
  go_wp2_with fail
  refine hfl2.mono ?_; rintro e w5 ⟨G2, rfl, d5, f5⟩
  have h5 := HDU.out.chD d5 (Fr.ofCh f5)
  obtain ⟨⟨k0, _, k2, k3, k4, k5, k6⟩, kf⟩ := row7 h5.1.row
  have f4 := kf 4
  have f5' := kf 5
  have hX := h5.1.chR (x' := { x with n := x.n + 1, us := x.us + z }) (w' := (w5.setCell ⟨b, 4, none⟩ (.int .i64 ((x.n : Int) + 1))).setCell ⟨b, 5, none⟩ (.int .i64 ((x.us : Int) + (z : Int)))) (heap_setCell_same _ b 5 _ _ _ (heap_setCell_same w5 b 4 _ _ _ h5.1.row)) rfl (fr_cell (fr_cell (Fr.refl _ _) 4 _) 5 _)
  have HF := Hf (And.intro hX.1 (HFR.out.trans (h5.2.trans hX.2)))
  clear hfl2 d5 f5 h5 kf hX HDU HFR k1; go_wp2
  go_ret
  refine ⟨fun _ => ⟨G2, rfl, ?_, HF.out.2⟩, fun hne => absurd hz hne⟩
  rw [HA0.out]
  exact HF.out.1
 ·have hd : decide ((z : Int) > ((hf n - x.us : Nat) : Int)) = true := decide_eq_true (by omega)
  have hd' : decide (((hf n - x.us : Nat) : Int) < (z : Int)) = true := decide_eq_true (by omega)
  clear HD3; go_wp2
  go_ret
  exact ⟨fun h => absurd h hz, fun _ => ⟨rfl, HB3.out⟩⟩
end
end Go.Proofs.YtlnedgjikkhplaaGreat.Du
