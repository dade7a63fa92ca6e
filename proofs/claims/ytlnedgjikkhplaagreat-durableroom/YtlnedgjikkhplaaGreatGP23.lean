import Derived.Test.YtlnedgjikkhplaaGreatGP22
set_option maxRecDepth 100000
set_option maxHeartbeats 8000000
set_option linter.unusedVariables false
set_option linter.unusedSimpArgs false
namespace Go.Proofs.YtlnedgjikkhplaaGreat.Du
open Go.RowKit
open Na (Fr AS XL vl bV vV Hf bel1 bel2 Bu Br row2 row4 blk OwnL AtL)
open Na.M (E V S S0)
open Ns.M (ofL)
def eqE (y z : E) : Bool := decide (y.i = z.i) && decide (y.t = z.t)
theorem eqE_yes {y z : E} (h : eqE y z = true) : y = z := by
 unfold eqE at h
 simp at h
 exact E_ext h.1 h.2
theorem eqE_no {y z : E} (h : eqE y z = false) : ¬ (y.i = z.i ∧ y.t = z.t) := by
 unfold eqE at h
 simp at h
 rintro ⟨h1, h2⟩
 exact h h1 h2
def rm (n : Nat) (x : X) (r : R) : Bool := decide (sec x.ep x.n r ≤ hf n - x.us)
def ppb (n : Nat) (x : X) (y : E) (k : Int) : Bool := !x.cut && (Na.M.prb x.a y k && (eqE y x.a.p || rm n x (.pr y)))
def ppc (n : Nat) (x : X) (y : E) (k : Int) : Int := if x.cut = true then 16 else if Na.M.prb x.a y k = true ∧ eqE y x.a.p = false ∧ rm n x (.pr y) = false then 5 else 0
def ppx (n : Nat) (x : X) (y : E) (k : Int) : X := if ppb n x y k = true ∧ eqE y x.a.p = false then addX x (.pr y) else x
def ppl (n : Nat) (x : X) (y : E) (k : Int) : List V := if ppb n x y k = true then Na.M.vts x.a.l k else []
def aab (n : Nat) (x : X) (v : V) : Bool := !x.cut && (Na.M.acb x.a v && (hs x.a.l v || rm n x (.vo v)))
def aac (n : Nat) (x : X) (v : V) : Int := if x.cut = true then 16 else if Na.M.acb x.a v = true ∧ hs x.a.l v = false ∧ rm n x (.vo v) = false then 5 else 0
def aax (n : Nat) (x : X) (v : V) : X := if aab n x v = true ∧ hs x.a.l v = false then addX x (.vo v) else x
def ttb (x : X) (u : Int) : Bool := decide ((Na.M.trs x.a u).base = x.a.base)
def ttc (n : Nat) (x : X) (u : Int) : Int := if x.cut = true then 16 else if ttb x u = false ∧ rm n x (.tr (Na.M.trs x.a u).base) = false then 5 else 0
def ttx (n : Nat) (x : X) (u : Int) : X := if x.cut = false ∧ ttb x u = false ∧ rm n x (.tr (Na.M.trs x.a u).base) = true then addX x (.tr (Na.M.trs x.a u).base) else x
theorem no_blk {j : Nat} (h : blk none j) : False := by
 obtain ⟨_, _, e⟩ := h
 cases e
theorem vld_wf {y : E} (h : Na.M.vld y = true) : I64 y.i ∧ I64 y.t := by
 unfold Na.M.vld at h
 simp at h
 unfold I64
 omega
theorem redo_pr {a : S} {y : E} {k : Int} (h : Na.M.prb a y k = true) : redo a (.pr y) = Na.M.prs a y k := by
 have hm := Na.M.prb_may h
 show Na.M.prs a y a.base = _
 have hb : Na.M.prb a y a.base = true := by
  unfold Na.M.prb; rw [hm]
  simp
 rw [Na.M.prs_yes hb, Na.M.prs_yes h]
theorem prs_same {a : S} {y : E} {k : Int} (h : Na.M.prb a y k = true) (e : eqE y a.p = true) : Na.M.prs a y k = a := by
 rw [Na.M.prs_yes h, eqE_yes e]
section
variable {w0 w w' : World} {FA FD FA' FD' : Nat → Prop} {b ab db n : Nat} {P P' : List Ns.M.Pl} {x x' : X} {rs : List R}
def Chg (w0 w : World) (FA FD : Nat → Prop) (b ab db n : Nat) (x' : X) (w' : World) : Prop := ∃ FA' FD' P' rs', DU w0 w' FA' FD' b ab db n P' x' ∧ Gd n P' x' rs' ∧ Fr w (fpd b FA FD) w' (fpd b FA' FD')
theorem Chg.same (h : DU w0 w FA FD b ab db n P x) (hg : Gd n P x rs) (hb : Below w.heap.size w w') : Chg w0 w FA FD b ab db n x w' := ⟨FA, FD, P, rs, h.keep hb, hg, Fr.ofBelow hb⟩
def PpO (w0 w : World) (FA FD : Nat → Prop) (b ab db n : Nat) (x : X) (y : E) (k : Int) (e : Ending) (w' : World) : Prop :=
 ∃ ad c, e = .returned (.tuple #[.slice ad (ppl n x y k).length c, .bool (ppb n x y k), .int .i64 (ppc n x y k)]) ∧ XL vl w' ad c (ppl n x y k) ∧ (∀ j, blk ad j → w.heap.size ≤ j ∧ j < w'.heap.size) ∧ Chg w0 w FA FD b ab db n (ppx n x y k) w'
theorem DU.promise (h : DU w0 w FA FD b ab db n P x) (hg : Gd n P x rs) (y : E) (k : Int) : Calls Tryz.prog 22 #[ptr b, bV y, .int .i64 k] w (PpO w0 w FA FD b ab db n x y k) := by
 cases hcut : x.cut with
 | true =>
  obtain ⟨W1, HW1⟩ := Nh (w.alloc (.cells #[.int .i64 y.i, .int .i64 y.t] 36))
  have hb1 : Below w.heap.size w W1 := by rw [← HW1.out]; exact bel1 w _
  have hr1 : W1.heap[w.heap.size]? = some (.cells #[.int .i64 y.i, .int .i64 y.t] 36 (0, 0)) := by rw [← HW1.out]; exact heap_alloc_last w _
  have hd1 := h.keep hb1
  have hrf := hd1.refused
  rw [hcut] at hrf
  have HB1 := Hf hb1
  have HQ : Hid (∀ w', Below w.heap.size w w' → PpO w0 w FA FD b ab db n x y k (.returned (.tuple #[.slice none 0 0, .bool false, .int .i64 16])) w') := fun w' hb => by
   have e1 : ppb n x y k = false := by unfold ppb; rw [hcut]; rfl
   have e2 : ppc n x y k = 16 := by unfold ppc; rw [if_pos hcut]
   have e3 : ppl n x y k = [] := by unfold ppl; rw [e1]; rfl
   have e4 : ppx n x y k = x := by unfold ppx; rw [if_neg (by rw [e1]; simp)]
   refine ⟨none, 0, by rw [e1, e2, e3]; rfl, by rw [e3]; exact Na.XL.emp _, fun j hj => (no_blk hj).elim, ?_⟩
   rw [e4]
   exact Chg.same h hg hb
  clear h hg hb1 hr1 hd1
  go_enter Tryz.func22, Tryz.ntmps22
  go_upto_region 1 with fail
  rw [HW1.out]; clear HW1
  go_wp2_with fail
  refine hrf.mono ?_; rintro e w2 ⟨rfl, hw2⟩
  obtain rfl := hw2.symm
  clear hrf hw2; go_wp2
  go_ret3
  exact HQ.out _ HB1.out
 | false =>
  cases hp : Na.M.prb x.a y k with
  | false =>
   obtain ⟨W1, HW1⟩ := Nh (w.alloc (.cells #[.int .i64 y.i, .int .i64 y.t] 36))
   have hb1 : Below w.heap.size w W1 := by rw [← HW1.out]; exact bel1 w _
   have hr1 : W1.heap[w.heap.size]? = some (.cells #[.int .i64 y.i, .int .i64 y.t] 36 (0, 0)) := by rw [← HW1.out]; exact heap_alloc_last w _
   have hd1 := h.keep hb1
   have hrf := hd1.refused
   rw [hcut] at hrf
   have HTR : Hid (∀ w', Below W1.heap.size W1 w' → Calls Tryz.prog 56 #[ptr b] w' (TrO w' x.a)) := fun w' hb => (hd1.keep hb).trial hg.aok.2
   have HS : Hid (∀ w', Below W1.heap.size W1 w' → w'.cell? ⟨w.heap.size, 0, none⟩ = some (.int .i64 y.i) ∧ w'.cell? ⟨w.heap.size, 1, none⟩ = some (.int .i64 y.t)) := fun w' hb => (row2 (Br hr1 hb)).1
   have HR1 := Hf hr1
   have HB1 := Hf hb1
   have HQ : Hid (∀ w', Below w.heap.size w w' → PpO w0 w FA FD b ab db n x y k (.returned (.tuple #[.slice none 0 0, .bool false, .int .i64 0])) w') := fun w' hb => by
    have e1 : ppb n x y k = false := by unfold ppb; rw [hcut, hp]; rfl
    have e2 : ppc n x y k = 0 := by unfold ppc; rw [if_neg (by rw [hcut]; simp), if_neg (by rw [hp]; simp)]
    have e3 : ppl n x y k = [] := by unfold ppl; rw [e1]; rfl
    have e4 : ppx n x y k = x := by unfold ppx; rw [if_neg (by rw [e1]; simp)]
    refine ⟨none, 0, by rw [e1, e2, e3]; rfl, by rw [e3]; exact Na.XL.emp _, fun j hj => (no_blk hj).elim, ?_⟩
    rw [e4]
    exact Chg.same h hg hb
   clear h hg hb1 hr1 hd1
   go_enter Tryz.func22, Tryz.ntmps22
   go_upto_region 1 with fail
   rw [HW1.out]; clear HW1
   go_wp2_with fail
   refine hrf.mono ?_; rintro e w2 ⟨rfl, hw2⟩
   obtain rfl := hw2.symm
   clear hrf hw2
   go_upto_region 4 with fail
   refine wp_region_held_drew (S := fun wq => Below (W1).heap.size (W1) wq) (by kernel_rfl) (Below.drew (Below.refl _ _)) fun Hl => ?_
   refine Tm 0 ?pA ?vA Hl ?rA
   refine Tk 2 ?pB ?vB ?yB Hl ?rB
   case yB => intro q h; obtain ⟨y0, y1⟩ := HS.out q h; go_simp; try with_reducible rfl
   refine Tm 3 ?pC ?vC Hl ?rC
   simp only [Act.put, Pa, Pb, Pc]
   refine Rd 1 ?pD ?sD
   intro K hK; go_simp
   have HH0 := Hf Hl
   refine (HTR.out _ Hl).mono ?_; rintro e v1 ⟨tb, Ft, rfl, a1⟩
   have B1 : Below W1.heap.size W1 v1 := Hl.trans (a1.bel.mono Hl.size)
   have HA1 := Hf a1
   clear a1
   refine hK.out _ _ B1 fun Hl => ?_; clear hK K
   refine Rd 4 ?pE ?sE
   intro K hK; go_simp
   refine (HA1.out.promise y k).mono ?_; rintro e v4 ⟨ad4, c4, rfl, _, _, a4, _⟩
   have B4 : Below W1.heap.size W1 v4 := HH0.out.trans (a4.bel.mono HH0.out.size)
   clear a4 HA1 HH0; rw [tri_prb, hp]
   refine hK.out _ _ B4 fun Hl => ?_; clear hK K
   refine Tm 5 ?pF ?vF Hl ?rF
   refine Tm 6 ?pG ?vG Hl ?rG
   refine Tm 7 ?pH ?vH Hl ?rH
   refine Tm 8 ?pI ?vI Hl ?rI
   refine Tm 9 ?pJ ?vJ Hl ?rJ
   simp only [Act.put, Pa, Pb, Pc]
   refine wpAnyH_done (by kernel_rfl) ?_ _
   obtain ⟨w4, hw4⟩ := Nq (v4)
   subst hw4
   have HB4 := Hf (Bu HB1.out Hl Lr)
   have HR4 := Hf (Br HR1.out Hl)
   clear Hl HS HTR HR1 HB1; go_wp2
   go_ret3
   exact HQ.out _ HB4.out
  | true =>
   cases he : eqE y x.a.p with
   | true =>
    obtain ⟨W1, HW1⟩ := Nh (w.alloc (.cells #[.int .i64 y.i, .int .i64 y.t] 36))
    have hb1 : Below w.heap.size w W1 := by rw [← HW1.out]; exact bel1 w _
    have hr1 : W1.heap[w.heap.size]? = some (.cells #[.int .i64 y.i, .int .i64 y.t] 36 (0, 0)) := by rw [← HW1.out]; exact heap_alloc_last w _
    have hd1 := h.keep hb1
    have hrf := hd1.refused
    rw [hcut] at hrf
    have HTR : Hid (∀ w', Below W1.heap.size W1 w' → Calls Tryz.prog 56 #[ptr b] w' (TrO w' x.a)) := fun w' hb => (hd1.keep hb).trial hg.aok.2
    have HS : Hid (∀ w', Below W1.heap.size W1 w' → w'.cell? ⟨w.heap.size, 0, none⟩ = some (.int .i64 y.i) ∧ w'.cell? ⟨w.heap.size, 1, none⟩ = some (.int .i64 y.t)) := fun w' hb => (row2 (Br hr1 hb)).1
    have HR1 := Hf hr1
    have HB1 := Hf hb1
    have HH := Hf h
    have HG := Hf hg
    have HEq := Hf (eqE_yes he)
    have HNF : Hid (¬ FA w.heap.size) := fun e => by have := (h.a.mine _ e).2; omega
    clear h hg hb1 hr1 hd1
    go_enter Tryz.func22, Tryz.ntmps22
    go_upto_region 1 with fail
    rw [HW1.out]; clear HW1
    go_wp2_with fail
    refine hrf.mono ?_; rintro e w2 ⟨rfl, hw2⟩
    obtain rfl := hw2.symm
    clear hrf hw2
    go_upto_region 4 with fail
    refine wp_region_held_drew (S := fun wq => Below (W1).heap.size (W1) wq) (by kernel_rfl) (Below.drew (Below.refl _ _)) fun Hl => ?_
    refine Tm 0 ?pK ?vK Hl ?rK
    refine Tk 2 ?pL ?vL ?yL Hl ?rL
    case yL => intro q h; obtain ⟨y0, y1⟩ := HS.out q h; go_simp; try with_reducible rfl
    refine Tm 3 ?pM ?vM Hl ?rM
    simp only [Act.put, Pa, Pb, Pc]
    refine Rd 1 ?pN ?sN
    intro K hK; go_simp
    have HH0 := Hf Hl
    refine (HTR.out _ Hl).mono ?_; rintro e v1 ⟨tb, Ft, rfl, a1⟩
    have B1 : Below W1.heap.size W1 v1 := Hl.trans (a1.bel.mono Hl.size)
    have HA1 := Hf a1
    clear a1
    refine hK.out _ _ B1 fun Hl => ?_; clear hK K
    refine Rd 4 ?pO ?sO
    intro K hK; go_simp
    refine (HA1.out.promise y k).mono ?_; rintro e v4 ⟨ad4, c4, rfl, _, _, a4, _⟩
    have B4 : Below W1.heap.size W1 v4 := HH0.out.trans (a4.bel.mono HH0.out.size)
    clear a4 HA1 HH0; rw [tri_prb, hp]
    refine hK.out _ _ B4 fun Hl => ?_; clear hK K
    refine Tm 5 ?pP ?vP Hl ?rP
    refine Tm 6 ?pQ ?vQ Hl ?rQ
    refine Tm 7 ?pR ?vR Hl ?rR
    refine Tm 8 ?pS ?vS Hl ?rS
    refine Tm 9 ?pT ?vT Hl ?rT
    simp only [Act.put, Pa, Pb, Pc]
    refine wpAnyH_done (by kernel_rfl) ?_ _
    obtain ⟨w4, hw4⟩ := Nq (v4)
    subst hw4
    have HB4 := Hf (Bu HB1.out Hl Lr)
    have HR4 := Hf (Br HR1.out Hl)
    clear Hl HS HTR HR1 HB1
    have HD4 := Hf (HH.out.keep HB4.out)
    have HPM : Hid (∀ w', Below v4.heap.size v4 w' → Calls Tryz.prog 16 #[ptr b] w' fun e w'' => e = .returned (bV x.a.p) ∧ Below w'.heap.size w' w'') := fun w' hb => (HD4.out.keep hb).promised
    have HS : Hid (∀ w', Below v4.heap.size v4 w' → w'.cell? ⟨w.heap.size, 0, none⟩ = some (.int .i64 y.i) ∧ w'.cell? ⟨w.heap.size, 1, none⟩ = some (.int .i64 y.t)) := fun w' hb => (row2 (Br HR4.out hb)).1
    go_upto_region 7 with fail
    refine wp_region_held_drew (S := fun wq => Below (v4).heap.size (v4) wq) (by kernel_rfl) (Below.drew (Below.refl _ _)) fun Hl => ?_
    refine Tk 0 ?pU ?vU ?yU Hl ?rU
    case yU => intro q h; obtain ⟨y0, y1⟩ := HS.out q h; go_simp; try with_reducible rfl
    refine Tm 1 ?pV ?vV Hl ?rV
    simp only [Act.put, Pa, Pb, Pc]
    refine Rd 2 ?pW ?sW
    intro K hK; go_simp
    refine (HPM.out _ Hl).mono ?_; rintro e v2 ⟨rfl, hb2⟩
    have B2 : Below v4.heap.size v4 v2 := Hl.trans (hb2.mono Hl.size)
    clear hb2
    refine hK.out _ _ B2 fun Hl => ?_; clear hK K
    refine wpAnyH_take (i := 3) (oi := ?pX) (v := .bool false) ?oX (by kernel_rfl) (by kernel_rfl) (by kernel_rfl) ?qX ?yX Hl ?rX
    case oX => simp only [List.getElem?_toArray, List.getElem?_cons_succ, List.getElem?_cons_zero]; rfl
    case qX => exact fun _ _ _ h => h
    case yX => (refine Or.inl ⟨rfl, ?_⟩; intro wq hq; obtain ⟨y0, y1⟩ := HS.out wq hq; go_simp; have hEq := HEq.out; first | (with_reducible rfl) | (simp [hEq]) | (by_cases q1 : y.i = x.a.p.i <;> by_cases q2 : y.t = x.a.p.t <;> simp_all))
    simp only [Act.put, List.setIfInBounds_toArray, List.set_cons_zero, List.set_cons_succ]
    refine wpAnyH_done (by kernel_rfl) ?_ _
    have HB7 := Hf (Bu HB4.out Hl Lr)
    have HR7 := Hf (Br HR4.out Hl)
    clear Hl HS HPM HD4 HB4 HR4
    have HDL := Hf (HH.out.keep HB7.out)
    have HRL := HR7
    have HDd : Hid (DU w0 v2.drew FA FD b ab db n P x) := HDL.out.keep (Below.refl _ _).drew
    have HSI : Hid (v2.drew.cell? ⟨b, 0, none⟩ = some (ptr ab) ∧ v2.drew.cell? ⟨w.heap.size, 0, none⟩ = some (.int .i64 y.i) ∧ v2.drew.cell? ⟨w.heap.size, 1, none⟩ = some (.int .i64 y.t)) := ⟨(row7 HDL.out.row).1.1, (row2 HRL.out).1⟩
    have HKS : Hid (∀ w' G, Fr v2.drew FA w' G → w'.cell? ⟨b, 0, none⟩ = some (ptr ab) ∧ w'.cell? ⟨w.heap.size, 0, none⟩ = some (.int .i64 y.i) ∧ w'.cell? ⟨w.heap.size, 1, none⟩ = some (.int .i64 y.t)) := fun w' G hF =>
     ⟨(row7 ((hF.block b HDL.out.lt HDL.out.na).trans HDL.out.row)).1.1, (row2 ((hF.block w.heap.size (Array.getElem?_eq_some_iff.1 HRL.out).1 HNF.out).trans HRL.out)).1⟩
    have HCL := Hf (HDd.out.a.promise y k)
    have HFI : Hid (∀ w' ad c, XL vl w' ad c (Na.M.prl x.a y k) → (∀ j, blk ad j → v2.drew.heap.size ≤ j ∧ j < w'.heap.size) → AS w0 w' FA ab (Na.M.prs x.a y k) → Fr v2.drew FA w' FA → PpO w0 w FA FD b ab db n x y k (.returned (.tuple #[.slice ad (Na.M.prl x.a y k).length c, .bool true, .int .i64 0])) w') := fun w' ad c hx hn ha hF => by
     have e1 : ppb n x y k = true := by unfold ppb; rw [hcut, hp, he]; rfl
     have e2 : ppc n x y k = 0 := by unfold ppc; rw [if_neg (by rw [hcut]; simp), if_neg (by rw [he]; simp)]
     have e3 : ppl n x y k = Na.M.prl x.a y k := by unfold ppl Na.M.prl; rw [e1, hp]
     have e4 : ppx n x y k = x := by unfold ppx; rw [if_neg (by rw [he]; simp)]
     have h1 := HDd.out.chA ha hF
     rw [prs_same hp he] at h1
     have hsz : w.heap.size ≤ v2.heap.size := HB7.out.size
     refine ⟨ad, c, by rw [e1, e2, e3], by rw [e3]; exact hx, fun j hj => ⟨Nat.le_trans hsz (hn j hj).1, (hn j hj).2⟩, ?_⟩
     rw [e4]
     exact ⟨FA, FD, P, rs, h1.1, HG.out, (Fr.ofBelow (Bu HB7.out (Below.refl _ _).drew Lr)).trans h1.2⟩
    clear HDL HRL HDd HR7 HB7 HH HG HNF
    go_upto_region 11 with fail
    refine wp_region_held_drew (S := (fun wq => wq.cell? ⟨b, 0, none⟩ = some (ptr ab) ∧ wq.cell? ⟨w.heap.size, 0, none⟩ = some (.int .i64 y.i) ∧ wq.cell? ⟨w.heap.size, 1, none⟩ = some (.int .i64 y.t))) (by kernel_rfl) HSI.out fun Hl => ?_
    refine Tm 0 ?pY ?vY Hl ?rY
    refine Tm 1 ?pZ ?vZ Hl ?rZ
    refine Tm 2 ?pa ?va Hl ?ra
    refine Tk 3 ?pb ?vb ?yb Hl ?rb
    case yb => intro wq hq; obtain ⟨z0, y0, y1⟩ := hq; go_simp; try with_reducible rfl
    refine Tk 4 ?pc ?vc ?yc Hl ?rc
    case yc => intro wq hq; obtain ⟨z0, y0, y1⟩ := hq; go_simp; try with_reducible rfl
    refine Tm 5 ?pd ?vd Hl ?rd
    simp only [Act.put, Pa, Pb, Pc]
    refine Rd 6 ?pe ?se
    intro K hK; go_simp
    refine HCL.out.mono ?_; rintro e v6 ⟨ad6, c6, rfl, hx6, hn6, a6, f6⟩
    have hS := HKS.out _ _ f6
    have HF := Hf (HFI.out _ _ _ hx6 hn6 a6 f6)
    clear hx6 hn6 a6 f6
    refine hK.out _ _ hS fun Hl => ?_; clear hK K
    refine Tm 7 ?pf ?vf Hl ?rf
    refine Tm 8 ?pg ?vg Hl ?rg
    refine Tm 9 ?ph ?vh Hl ?rh
    refine Tm 10 ?pi ?vi Hl ?ri
    refine Tm 11 ?pj ?vj Hl ?rj
    simp only [Act.put, Pa, Pb, Pc]
    refine wpAnyH_done (by kernel_rfl) ?_ _
    go_wp2
    go_ret3
    exact HF.out
   | false =>
    obtain ⟨W1, HW1⟩ := Nh (w.alloc (.cells #[.int .i64 y.i, .int .i64 y.t] 36))
    have hb1 : Below w.heap.size w W1 := by rw [← HW1.out]; exact bel1 w _
    have hr1 : W1.heap[w.heap.size]? = some (.cells #[.int .i64 y.i, .int .i64 y.t] 36 (0, 0)) := by rw [← HW1.out]; exact heap_alloc_last w _
    have hd1 := h.keep hb1
    have hrf := hd1.refused
    rw [hcut] at hrf
    have HTR : Hid (∀ w', Below W1.heap.size W1 w' → Calls Tryz.prog 56 #[ptr b] w' (TrO w' x.a)) := fun w' hb => (hd1.keep hb).trial hg.aok.2
    have HS : Hid (∀ w', Below W1.heap.size W1 w' → w'.cell? ⟨w.heap.size, 0, none⟩ = some (.int .i64 y.i) ∧ w'.cell? ⟨w.heap.size, 1, none⟩ = some (.int .i64 y.t)) := fun w' hb => (row2 (Br hr1 hb)).1
    have HR1 := Hf hr1
    have HB1 := Hf hb1
    have HH := Hf h
    have HG := Hf hg
    have HEq := Hf (eqE_no he)
    have HNF : Hid (¬ FA w.heap.size) := fun e => by have := (h.a.mine _ e).2; omega
    have HNB : Hid (¬ fpd b FA FD w.heap.size) := fun e => by have := (h.mine _ e).2; omega
    clear h hg hb1 hr1 hd1
    go_enter Tryz.func22, Tryz.ntmps22
    go_upto_region 1 with fail
    rw [HW1.out]; clear HW1
    go_wp2_with fail
    refine hrf.mono ?_; rintro e w2 ⟨rfl, hw2⟩
    obtain rfl := hw2.symm
    clear hrf hw2
    go_upto_region 4 with fail
    refine wp_region_held_drew (S := fun wq => Below (W1).heap.size (W1) wq) (by kernel_rfl) (Below.drew (Below.refl _ _)) fun Hl => ?_
    refine Tm 0 ?pk ?vk Hl ?rk
    refine Tk 2 ?pl ?vl ?yl Hl ?rl
    case yl => intro q h; obtain ⟨y0, y1⟩ := HS.out q h; go_simp; try with_reducible rfl
    refine Tm 3 ?pm ?vm Hl ?rm
    simp only [Act.put, Pa, Pb, Pc]
    refine Rd 1 ?pn ?sn
    intro K hK; go_simp
    have HH0 := Hf Hl
    refine (HTR.out _ Hl).mono ?_; rintro e v1 ⟨tb, Ft, rfl, a1⟩
    have B1 : Below W1.heap.size W1 v1 := Hl.trans (a1.bel.mono Hl.size)
    have HA1 := Hf a1
    clear a1
    refine hK.out _ _ B1 fun Hl => ?_; clear hK K
    refine Rd 4 ?po ?so
    intro K hK; go_simp
    refine (HA1.out.promise y k).mono ?_; rintro e v4 ⟨ad4, c4, rfl, _, _, a4, _⟩
    have B4 : Below W1.heap.size W1 v4 := HH0.out.trans (a4.bel.mono HH0.out.size)
    clear a4 HA1 HH0; rw [tri_prb, hp]
    refine hK.out _ _ B4 fun Hl => ?_; clear hK K
    refine Tm 5 ?pp ?vp Hl ?rp
    refine Tm 6 ?pq ?vq Hl ?rq
    refine Tm 7 ?pr ?vr Hl ?rr
    refine Tm 8 ?ps ?vs Hl ?rs
    refine Tm 9 ?pt ?vt Hl ?rt
    simp only [Act.put, Pa, Pb, Pc]
    refine wpAnyH_done (by kernel_rfl) ?_ _
    obtain ⟨w4, hw4⟩ := Nq (v4)
    subst hw4
    have HB4 := Hf (Bu HB1.out Hl Lr)
    have HR4 := Hf (Br HR1.out Hl)
    clear Hl HS HTR HR1 HB1
    have HD4 := Hf (HH.out.keep HB4.out)
    have HPM : Hid (∀ w', Below v4.heap.size v4 w' → Calls Tryz.prog 16 #[ptr b] w' fun e w'' => e = .returned (bV x.a.p) ∧ Below w'.heap.size w' w'') := fun w' hb => (HD4.out.keep hb).promised
    have HS : Hid (∀ w', Below v4.heap.size v4 w' → w'.cell? ⟨w.heap.size, 0, none⟩ = some (.int .i64 y.i) ∧ w'.cell? ⟨w.heap.size, 1, none⟩ = some (.int .i64 y.t)) := fun w' hb => (row2 (Br HR4.out hb)).1
    go_upto_region 7 with fail
    refine wp_region_held_drew (S := fun wq => Below (v4).heap.size (v4) wq) (by kernel_rfl) (Below.drew (Below.refl _ _)) fun Hl => ?_
    refine Tk 0 ?pu ?vu ?yu Hl ?ru
    case yu => intro q h; obtain ⟨y0, y1⟩ := HS.out q h; go_simp; try with_reducible rfl
    refine Tm 1 ?pv ?vv Hl ?rv
    simp only [Act.put, Pa, Pb, Pc]
    refine Rd 2 ?pw ?sw
    intro K hK; go_simp
    refine (HPM.out _ Hl).mono ?_; rintro e v2 ⟨rfl, hb2⟩
    have B2 : Below v4.heap.size v4 v2 := Hl.trans (hb2.mono Hl.size)
    clear hb2
    refine hK.out _ _ B2 fun Hl => ?_; clear hK K
    refine wpAnyH_take (i := 3) (oi := ?px) (v := .bool true) ?ox (by kernel_rfl) (by kernel_rfl) (by kernel_rfl) ?qx ?yx Hl ?rx
    case ox => simp only [List.getElem?_toArray, List.getElem?_cons_succ, List.getElem?_cons_zero]; rfl
    case qx => exact fun _ _ _ h => h
    case yx => (refine Or.inl ⟨rfl, ?_⟩; intro wq hq; obtain ⟨y0, y1⟩ := HS.out wq hq; go_simp; have hEq := HEq.out; first | (with_reducible rfl) | (simp [hEq]) | (by_cases q1 : y.i = x.a.p.i <;> by_cases q2 : y.t = x.a.p.t <;> simp_all))
    simp only [Act.put, List.setIfInBounds_toArray, List.set_cons_zero, List.set_cons_succ]
    refine wpAnyH_done (by kernel_rfl) ?_ _
    have HB7 := Hf (Bu HB4.out Hl Lr)
    have HR7 := Hf (Br HR4.out Hl)
    clear Hl HS HPM HD4 HB4 HR4
    have hpr := fun W => promiseRecord_any y W
    obtain ⟨⟨c0, c1⟩, _⟩ := row2 HR7.out
    go_wp2_with fail
    refine (hpr _).mono ?_; rintro e w8 ⟨rfl, hb8⟩
    have HB8 := Hf (Bu HB7.out hb8 Lr)
    have HR8 := Hf (Br HR7.out hb8)
    have had := (HH.out.keep HB8.out).add HG.out (.pr y) (vld_wf (may_vld (Na.M.prb_may hp)))
    clear hpr hb8 HB7 HR7 c0 c1
    go_wp2_with fail
    refine had.mono ?_; rintro e w9 ⟨hy, hno⟩
    clear had
    by_cases hz : sec x.ep x.n (.pr y) ≤ hf n - x.us
    ·obtain ⟨G, rfl, hd9, hf9⟩ := hy hz
     have HDL := Hf hd9
     have HRL : Hid (w9.heap[w.heap.size]? = some (.cells #[.int .i64 y.i, .int .i64 y.t] 36 (0, 0))) := (hf9.block w.heap.size (Array.getElem?_eq_some_iff.1 HR8.out).1 HNB.out).trans HR8.out
     have HFL := Hf ((Fr.ofBelow HB8.out).trans hf9)
     clear hy hno hd9 hf9 HB8 HR8
     have HDd : Hid (DU w0 w9.drew FA G b ab db n (addP n P x (.pr y)) { x with n := x.n + 1, us := x.us + sec x.ep x.n (.pr y) }) := HDL.out.keep (Below.refl _ _).drew
     have HSI : Hid (w9.drew.cell? ⟨b, 0, none⟩ = some (ptr ab) ∧ w9.drew.cell? ⟨w.heap.size, 0, none⟩ = some (.int .i64 y.i) ∧ w9.drew.cell? ⟨w.heap.size, 1, none⟩ = some (.int .i64 y.t)) := ⟨(row7 HDL.out.row).1.1, (row2 HRL.out).1⟩
     have HKS : Hid (∀ w' G, Fr w9.drew FA w' G → w'.cell? ⟨b, 0, none⟩ = some (ptr ab) ∧ w'.cell? ⟨w.heap.size, 0, none⟩ = some (.int .i64 y.i) ∧ w'.cell? ⟨w.heap.size, 1, none⟩ = some (.int .i64 y.t)) := fun w' G hF =>
      ⟨(row7 ((hF.block b HDL.out.lt HDL.out.na).trans HDL.out.row)).1.1, (row2 ((hF.block w.heap.size (Array.getElem?_eq_some_iff.1 HRL.out).1 HNF.out).trans HRL.out)).1⟩
     have HCL := Hf (HDd.out.a.promise y k)
     have HFI : Hid (∀ w' ad c, XL vl w' ad c (Na.M.prl x.a y k) → (∀ j, blk ad j → w9.drew.heap.size ≤ j ∧ j < w'.heap.size) → AS w0 w' FA ab (Na.M.prs x.a y k) → Fr w9.drew FA w' FA → PpO w0 w FA FD b ab db n x y k (.returned (.tuple #[.slice ad (Na.M.prl x.a y k).length c, .bool true, .int .i64 0])) w') := fun w' ad c hx hn ha hF => by
      have hrm : rm n x (.pr y) = true := decide_eq_true hz
      have e1 : ppb n x y k = true := by unfold ppb; rw [hcut, hp, hrm]; simp
      have e2 : ppc n x y k = 0 := by unfold ppc; rw [if_neg (by rw [hcut]; simp), if_neg (by rw [hrm]; simp)]
      have e3 : ppl n x y k = Na.M.prl x.a y k := by unfold ppl Na.M.prl; rw [e1, hp]
      have e4 : ppx n x y k = addX x (.pr y) := by unfold ppx; rw [if_pos ⟨e1, he⟩]
      have h1 := HDd.out.chA ha hF
      have hsz : w.heap.size ≤ w9.heap.size := HFL.out.size
      refine ⟨ad, c, by rw [e1, e2, e3], by rw [e3]; exact hx, fun j hj => ⟨Nat.le_trans hsz (hn j hj).1, (hn j hj).2⟩, ?_⟩
      have e5 : addX x (.pr y) = { x with n := x.n + 1, us := x.us + sec x.ep x.n (.pr y), a := Na.M.prs x.a y k } := by unfold addX; rw [redo_pr hp]
      have hgd := HG.out.add (.pr y) (vld_wf (may_vld (Na.M.prb_may hp))) hz
      rw [e4]
      refine ⟨FA, G, addP n P x (.pr y), rs ++ [.pr y], ?_, hgd, (HFL.out.trans (Fr.ofBelow (Below.refl _ _).drew)).trans h1.2⟩
      rw [e5]
      exact h1.1
     clear HDL HRL HDd HFL HH HG HNF HNB
     go_upto_region 11 with fail
     refine wp_region_held_drew (S := (fun wq => wq.cell? ⟨b, 0, none⟩ = some (ptr ab) ∧ wq.cell? ⟨w.heap.size, 0, none⟩ = some (.int .i64 y.i) ∧ wq.cell? ⟨w.heap.size, 1, none⟩ = some (.int .i64 y.t))) (by kernel_rfl) HSI.out fun Hl => ?_
     refine Tm 0 ?py ?vy Hl ?ry
     refine Tm 1 ?pz ?vz Hl ?rz
     refine Tm 2 ?p0 ?v0 Hl ?r0
     refine Tk 3 ?p1 ?v1 ?y1 Hl ?r1
     case y1 => intro wq hq; obtain ⟨z0, y0, y1⟩ := hq; go_simp; try with_reducible rfl
     refine Tk 4 ?p2 ?v2 ?y2 Hl ?r2
     case y2 => intro wq hq; obtain ⟨z0, y0, y1⟩ := hq; go_simp; try with_reducible rfl
     refine Tm 5 ?p3 ?v3 Hl ?r3
     simp only [Act.put, Pa, Pb, Pc]
     refine Rd 6 ?p4 ?s4
     intro K hK; go_simp
     refine HCL.out.mono ?_; rintro e v6 ⟨ad6, c6, rfl, hx6, hn6, a6, f6⟩
     have hS := HKS.out _ _ f6
     have HF := Hf (HFI.out _ _ _ hx6 hn6 a6 f6)
     clear hx6 hn6 a6 f6
     refine hK.out _ _ hS fun Hl => ?_; clear hK K
     refine Tm 7 ?p5 ?v5 Hl ?r5
     refine Tm 8 ?p6 ?v6 Hl ?r6
     refine Tm 9 ?p7 ?v7 Hl ?r7
     refine Tm 10 ?p8 ?v8 Hl ?r8
     refine Tm 11 ?p9 ?v9 Hl ?r9
     simp only [Act.put, Pa, Pb, Pc]
     refine wpAnyH_done (by kernel_rfl) ?_ _
     go_wp2
     go_ret3
     exact HF.out
    ·obtain ⟨rfl, hb9⟩ := hno hz
     have HQ : Hid (PpO w0 w FA FD b ab db n x y k (.returned (.tuple #[.slice none 0 0, .bool false, .int .i64 5])) w9) := by
      have hrm : rm n x (.pr y) = false := decide_eq_false hz
      have e1 : ppb n x y k = false := by unfold ppb; rw [he, hrm]; simp
      have e2 : ppc n x y k = 5 := by unfold ppc; rw [if_neg (by rw [hcut]; simp), if_pos ⟨hp, he, hrm⟩]
      have e3 : ppl n x y k = [] := by unfold ppl; rw [e1]; rfl
      have e4 : ppx n x y k = x := by unfold ppx; rw [if_neg (by rw [e1]; simp)]
      refine ⟨none, 0, by rw [e1, e2, e3]; rfl, by rw [e3]; exact Na.XL.emp _, fun j hj => (no_blk hj).elim, ?_⟩
      rw [e4]
      exact Chg.same HH.out HG.out (Bu HB8.out hb9 Lr)
     clear hy hno hb9 HB8 HR8 HH HG HNF HNB; go_wp2
     go_ret3
     exact HQ.out
end
end Go.Proofs.YtlnedgjikkhplaaGreat.Du
