import Derived.Test.YtlnedgjikkhplaaGreatGP23
set_option maxRecDepth 100000
set_option maxHeartbeats 8000000
set_option linter.unusedVariables false
set_option linter.unusedSimpArgs false
namespace Go.Proofs.YtlnedgjikkhplaaGreat.Du
open Go.RowKit
open Na (Fr AS XL vl bV vV Hf bel1 bel2 Bu Br row2 row4 blk OwnL AtL)
open Na.M (E V S S0)
theorem V_ext {y v : V} (h1 : y.s = v.s) (h2 : y.b = v.b) (h3 : y.v = v.v) : y = v := by
 cases y; cases v; simp_all
theorem veq_yes {y v : V} (h : Na.veq y.s y.b.i y.b.t y.v v.s v.b.i v.b.t v.v = true) : y = v := by
 unfold Na.veq at h
 simp at h
 obtain ⟨h1, ⟨h2, h3⟩, h4⟩ := h
 refine V_ext h1 (E_ext h2 h3) ?_
 rw [ByteArray.toList_eq, ByteArray.toList_eq] at h4
 exact ByteArray.ext (Array.toList_inj.1 h4)
theorem hs_mem {l : List V} {v : V} (h : hs l v = true) : v ∈ l := by
 unfold hs at h
 split at h
 ·cases h
 ·rename_i y r e
  have hm : y ∈ Na.M.vts l v.s := by rw [e]; simp
  rw [← veq_yes h]
  exact (Na.M.mem_vts.1 hm).1
theorem put_same {l : List V} (hu : Na.M.Up l) {v : V} (hv : v ∈ l) : Na.M.put l v = l := by
 refine up_uniq _ _ (Na.M.up_put hu v) hu fun x => ⟨fun h => ?_, fun h => ?_⟩
 ·rcases Na.M.mem_put h with rfl | ⟨h', _⟩
  ·exact hv
  ·exact h'
 ·by_cases e : x.s = v.s
  ·exact Na.M.put_mem (.inl (Na.M.Up.uniq hu h hv e))
  ·exact Na.M.put_mem (.inr ⟨h, e⟩)
theorem acs_same {a : S} (ho : Na.M.Ok a) {v : V} (h : Na.M.acb a v = true) (e : hs a.l v = true) : Na.M.acs a v = a := by
 have hv := hs_mem e
 have h1 := Na.M.may_yes (Na.M.acb_yes h).1
 have h2 := ho.pr v hv
 rw [cmpE_flip v.b a.p] at h2
 have : v.b = a.p := cmpE_zero.1 (by omega)
 rw [Na.M.acs_yes h, put_same ho.up hv, this]
theorem acb_wf {a : S} (ho : Na.M.Ok a) {v : V} (h : Na.M.acb a v = true) : Wf (.vo v) := by
 obtain ⟨h1, h2, h3, h4⟩ := Na.M.acb_yes h
 have h5 := vld_wf (may_vld h1)
 have h6 := ho.b0
 exact ⟨⟨by omega, by omega⟩, h5.1, h5.2, h4⟩
section
variable {w0 w w' : World} {FA FD FA' FD' : Nat → Prop} {b ab db n : Nat} {P P' : List Ns.M.Pl} {x x' : X} {rs : List R}
def AaO (w0 w : World) (FA FD : Nat → Prop) (b ab db n : Nat) (x : X) (v : V) (e : Ending) (w' : World) : Prop :=
 e = .returned (.tuple #[.bool (aab n x v), .int .i64 (aac n x v)]) ∧ Chg w0 w FA FD b ab db n (aax n x v) w'
theorem DU.accept (h : DU w0 w FA FD b ab db n P x) (hg : Gd n P x rs) (v : V) : Calls Tryz.prog 24 #[ptr b, vV v] w (AaO w0 w FA FD b ab db n x v) := by
 cases hcut : x.cut with
 | true =>
  obtain ⟨W1, HW1⟩ := Nh (w.alloc (.cells #[.int .i64 v.s, .int .i64 v.b.i, .int .i64 v.b.t, .string v.v] 48))
  have hb1 : Below w.heap.size w W1 := by rw [← HW1.out]; exact bel1 w _
  have hr1 : W1.heap[w.heap.size]? = some (.cells #[.int .i64 v.s, .int .i64 v.b.i, .int .i64 v.b.t, .string v.v] 48 (0, 0)) := by rw [← HW1.out]; exact heap_alloc_last w _
  have hd1 := h.keep hb1
  have hrf := hd1.refused
  rw [hcut] at hrf
  have HB1 := Hf hb1
  have HQ : Hid (∀ w', Below w.heap.size w w' → AaO w0 w FA FD b ab db n x v (.returned (.tuple #[.bool false, .int .i64 16])) w') := fun w' hb => by
   have e1 : aab n x v = false := by unfold aab; rw [hcut]; rfl
   have e2 : aac n x v = 16 := by unfold aac; rw [if_pos hcut]
   have e4 : aax n x v = x := by unfold aax; rw [if_neg (by rw [e1]; simp)]
   refine ⟨by rw [e1, e2], ?_⟩
   rw [e4]
   exact Chg.same h hg hb
  clear h hg hb1 hr1 hd1
  go_enter Tryz.func24, Tryz.ntmps24
  go_upto_region 1 with fail
  rw [HW1.out]; clear HW1
  go_wp2_with fail
  refine hrf.mono ?_; rintro e w2 ⟨rfl, hw2⟩
  obtain rfl := hw2.symm
  clear hrf hw2; go_wp2
  go_ret2
  exact HQ.out _ HB1.out
 | false =>
  cases hp : Na.M.acb x.a v with
  | false =>
   obtain ⟨W1, HW1⟩ := Nh (w.alloc (.cells #[.int .i64 v.s, .int .i64 v.b.i, .int .i64 v.b.t, .string v.v] 48))
   have hb1 : Below w.heap.size w W1 := by rw [← HW1.out]; exact bel1 w _
   have hr1 : W1.heap[w.heap.size]? = some (.cells #[.int .i64 v.s, .int .i64 v.b.i, .int .i64 v.b.t, .string v.v] 48 (0, 0)) := by rw [← HW1.out]; exact heap_alloc_last w _
   have hd1 := h.keep hb1
   have hrf := hd1.refused
   rw [hcut] at hrf
   have HTR : Hid (∀ w', Below W1.heap.size W1 w' → Calls Tryz.prog 56 #[ptr b] w' (TrO w' x.a)) := fun w' hb => (hd1.keep hb).trial hg.aok.2
   have HS : Hid (∀ w', Below W1.heap.size W1 w' → w'.cell? ⟨w.heap.size, 0, none⟩ = some (.int .i64 v.s) ∧ w'.cell? ⟨w.heap.size, 1, none⟩ = some (.int .i64 v.b.i) ∧ w'.cell? ⟨w.heap.size, 2, none⟩ = some (.int .i64 v.b.t) ∧ w'.cell? ⟨w.heap.size, 3, none⟩ = some (.string v.v)) := fun w' hb => (row4 (Br hr1 hb)).1
   have HR1 := Hf hr1
   have HB1 := Hf hb1
   have HQ : Hid (∀ w', Below w.heap.size w w' → AaO w0 w FA FD b ab db n x v (.returned (.tuple #[.bool false, .int .i64 0])) w') := fun w' hb => by
    have e1 : aab n x v = false := by unfold aab; rw [hcut, hp]; rfl
    have e2 : aac n x v = 0 := by unfold aac; rw [if_neg (by rw [hcut]; simp), if_neg (by rw [hp]; simp)]
    have e4 : aax n x v = x := by unfold aax; rw [if_neg (by rw [e1]; simp)]
    refine ⟨by rw [e1, e2], ?_⟩
    rw [e4]
    exact Chg.same h hg hb
   clear h hg hb1 hr1 hd1
   go_enter Tryz.func24, Tryz.ntmps24
   go_upto_region 1 with fail
   rw [HW1.out]; clear HW1
   go_wp2_with fail
   refine hrf.mono ?_; rintro e w2 ⟨rfl, hw2⟩
   obtain rfl := hw2.symm
   clear hrf hw2
   go_upto_region 4 with fail
   refine wp_region_held_drew (S := fun wq => Below (W1).heap.size (W1) wq) (by kernel_rfl) (Below.drew (Below.refl _ _)) fun Hl => ?_
   refine Tm 0 ?pA ?vA Hl ?rA
   refine Tk 2 ?pB ?vB ?yB Hl ?rB
   case yB => intro q h; obtain ⟨y0, y1, y2, y3⟩ := HS.out q h; go_simp; try with_reducible rfl
   simp only [Act.put, Pa, Pb, Pc]
   refine Rd 1 ?pC ?sC
   intro K hK; go_simp
   have HH0 := Hf Hl
   refine (HTR.out _ Hl).mono ?_; rintro e v1 ⟨tb, Ft, rfl, a1⟩
   have B1 : Below W1.heap.size W1 v1 := Hl.trans (a1.bel.mono Hl.size)
   have HA1 := Hf a1
   clear a1
   refine hK.out _ _ B1 fun Hl => ?_; clear hK K
   refine Rd 3 ?pD ?sD
   intro K hK; go_simp
   refine (HA1.out.accept v).mono ?_; rintro e v4 ⟨_, rfl, a4, _⟩
   have B4 : Below W1.heap.size W1 v4 := HH0.out.trans (a4.bel.mono HH0.out.size)
   clear a4 HA1 HH0; rw [tri_acb, hp]
   refine hK.out _ _ B4 fun Hl => ?_; clear hK K
   refine Tm 4 ?pE ?vE Hl ?rE
   simp only [Act.put, Pa, Pb, Pc]
   refine wpAnyH_done (by kernel_rfl) ?_ _
   have HB4 := Hf (Bu HB1.out Hl Lr)
   have HR4 := Hf (Br HR1.out Hl)
   clear Hl HS HTR HR1 HB1; go_wp2
   go_ret2
   exact HQ.out _ HB4.out
  | true =>
   cases he : hs x.a.l v with
   | true =>
    obtain ⟨W1, HW1⟩ := Nh (w.alloc (.cells #[.int .i64 v.s, .int .i64 v.b.i, .int .i64 v.b.t, .string v.v] 48))
    have hb1 : Below w.heap.size w W1 := by rw [← HW1.out]; exact bel1 w _
    have hr1 : W1.heap[w.heap.size]? = some (.cells #[.int .i64 v.s, .int .i64 v.b.i, .int .i64 v.b.t, .string v.v] 48 (0, 0)) := by rw [← HW1.out]; exact heap_alloc_last w _
    have hd1 := h.keep hb1
    have hrf := hd1.refused
    rw [hcut] at hrf
    have HTR : Hid (∀ w', Below W1.heap.size W1 w' → Calls Tryz.prog 56 #[ptr b] w' (TrO w' x.a)) := fun w' hb => (hd1.keep hb).trial hg.aok.2
    have HS : Hid (∀ w', Below W1.heap.size W1 w' → w'.cell? ⟨w.heap.size, 0, none⟩ = some (.int .i64 v.s) ∧ w'.cell? ⟨w.heap.size, 1, none⟩ = some (.int .i64 v.b.i) ∧ w'.cell? ⟨w.heap.size, 2, none⟩ = some (.int .i64 v.b.t) ∧ w'.cell? ⟨w.heap.size, 3, none⟩ = some (.string v.v)) := fun w' hb => (row4 (Br hr1 hb)).1
    have HR1 := Hf hr1
    have HB1 := Hf hb1
    have HH := Hf h
    have HG := Hf hg
    have HNF : Hid (¬ FA w.heap.size) := fun e => by have := (h.a.mine _ e).2; omega
    have HNB : Hid (¬ fpd b FA FD w.heap.size) := fun e => by have := (h.mine _ e).2; omega
    clear h hg hb1 hr1 hd1
    go_enter Tryz.func24, Tryz.ntmps24
    go_upto_region 1 with fail
    rw [HW1.out]; clear HW1
    go_wp2_with fail
    refine hrf.mono ?_; rintro e w2 ⟨rfl, hw2⟩
    obtain rfl := hw2.symm
    clear hrf hw2
    go_upto_region 4 with fail
    refine wp_region_held_drew (S := fun wq => Below (W1).heap.size (W1) wq) (by kernel_rfl) (Below.drew (Below.refl _ _)) fun Hl => ?_
    refine Tm 0 ?pF ?vF Hl ?rF
    refine Tk 2 ?pG ?vG ?yG Hl ?rG
    case yG => intro q h; obtain ⟨y0, y1, y2, y3⟩ := HS.out q h; go_simp; try with_reducible rfl
    simp only [Act.put, Pa, Pb, Pc]
    refine Rd 1 ?pH ?sH
    intro K hK; go_simp
    have HH0 := Hf Hl
    refine (HTR.out _ Hl).mono ?_; rintro e v1 ⟨tb, Ft, rfl, a1⟩
    have B1 : Below W1.heap.size W1 v1 := Hl.trans (a1.bel.mono Hl.size)
    have HA1 := Hf a1
    clear a1
    refine hK.out _ _ B1 fun Hl => ?_; clear hK K
    refine Rd 3 ?pI ?sI
    intro K hK; go_simp
    refine (HA1.out.accept v).mono ?_; rintro e v4 ⟨_, rfl, a4, _⟩
    have B4 : Below W1.heap.size W1 v4 := HH0.out.trans (a4.bel.mono HH0.out.size)
    clear a4 HA1 HH0; rw [tri_acb, hp]
    refine hK.out _ _ B4 fun Hl => ?_; clear hK K
    refine Tm 4 ?pJ ?vJ Hl ?rJ
    simp only [Act.put, Pa, Pb, Pc]
    refine wpAnyH_done (by kernel_rfl) ?_ _
    have HB4 := Hf (Bu HB1.out Hl Lr)
    have HR4 := Hf (Br HR1.out Hl)
    clear Hl HS HTR HR1 HB1
    obtain ⟨⟨c0, c1, c2, c3⟩, _⟩ := row4 HR4.out
    have hhs := (HH.out.keep HB4.out).has v
    rw [he] at hhs
    go_wp2_with fail
    refine hhs.mono ?_; rintro e w7 ⟨rfl, hb7⟩
    have HB7 := Hf (Bu HB4.out hb7 Lr)
    have HR7 := Hf (Br HR4.out hb7)
    clear hhs hb7 HB4 HR4 c0 c1 c2 c3
    have HDL := Hf (HH.out.keep HB7.out)
    have HRL := HR7
    have HDd : Hid (DU w0 w7.drew FA FD b ab db n P x) := HDL.out.keep (Below.refl _ _).drew
    have HSI : Hid (w7.drew.cell? ⟨b, 0, none⟩ = some (ptr ab) ∧ w7.drew.cell? ⟨w.heap.size, 0, none⟩ = some (.int .i64 v.s) ∧ w7.drew.cell? ⟨w.heap.size, 1, none⟩ = some (.int .i64 v.b.i) ∧ w7.drew.cell? ⟨w.heap.size, 2, none⟩ = some (.int .i64 v.b.t) ∧ w7.drew.cell? ⟨w.heap.size, 3, none⟩ = some (.string v.v)) := ⟨(row7 HDL.out.row).1.1, (row4 HRL.out).1⟩
    have HKS : Hid (∀ w' G, Fr w7.drew FA w' G → w'.cell? ⟨b, 0, none⟩ = some (ptr ab) ∧ w'.cell? ⟨w.heap.size, 0, none⟩ = some (.int .i64 v.s) ∧ w'.cell? ⟨w.heap.size, 1, none⟩ = some (.int .i64 v.b.i) ∧ w'.cell? ⟨w.heap.size, 2, none⟩ = some (.int .i64 v.b.t) ∧ w'.cell? ⟨w.heap.size, 3, none⟩ = some (.string v.v)) := fun w' G hF =>
     ⟨(row7 ((hF.block b HDL.out.lt HDL.out.na).trans HDL.out.row)).1.1, (row4 ((hF.block w.heap.size (Array.getElem?_eq_some_iff.1 HRL.out).1 HNF.out).trans HRL.out)).1⟩
    have HCL := Hf (HDd.out.a.accept v)
    have HFI : Hid (∀ w' G, AS w0 w' G ab (Na.M.acs x.a v) → Fr w7.drew FA w' G → AaO w0 w FA FD b ab db n x v (.returned (.tuple #[.bool true, .int .i64 0])) w') := fun w' G ha hF => by
     have e1 : aab n x v = true := by unfold aab; rw [hcut, hp, he]; rfl
     have e2 : aac n x v = 0 := by unfold aac; rw [if_neg (by rw [hcut]; simp), if_neg (by rw [he]; simp)]
     have e4 : aax n x v = x := by unfold aax; rw [if_neg (by rw [he]; simp)]
     have h1 := HDd.out.chA ha hF
     rw [acs_same HG.out.aok.1 hp he] at h1
     refine ⟨by rw [e1, e2], ?_⟩
     rw [e4]
     exact ⟨G, FD, P, rs, h1.1, HG.out, (Fr.ofBelow (Bu HB7.out (Below.refl _ _).drew Lr)).trans h1.2⟩
    clear HDL HRL HDd HR7 HB7 HH HG HNF HNB
    go_upto_region 10 with fail
    refine wp_region_held_drew (S := (fun wq => wq.cell? ⟨b, 0, none⟩ = some (ptr ab) ∧ wq.cell? ⟨w.heap.size, 0, none⟩ = some (.int .i64 v.s) ∧ wq.cell? ⟨w.heap.size, 1, none⟩ = some (.int .i64 v.b.i) ∧ wq.cell? ⟨w.heap.size, 2, none⟩ = some (.int .i64 v.b.t) ∧ wq.cell? ⟨w.heap.size, 3, none⟩ = some (.string v.v))) (by kernel_rfl) HSI.out fun Hl => ?_
    refine Tm 0 ?pK ?vK Hl ?rK
    refine Tm 1 ?pL ?vL Hl ?rL
    refine Tm 2 ?pM ?vM Hl ?rM
    refine Tk 3 ?pN ?vN ?yN Hl ?rN
    case yN => intro wq hq; obtain ⟨z0, y0, y1, y2, y3⟩ := hq; go_simp; try with_reducible rfl
    refine Tk 4 ?pO ?vO ?yO Hl ?rO
    case yO => intro wq hq; obtain ⟨z0, y0, y1, y2, y3⟩ := hq; go_simp; try with_reducible rfl
    simp only [Act.put, Pa, Pb, Pc]
    refine Rd 5 ?pP ?sP
    intro K hK; go_simp
    refine HCL.out.mono ?_; rintro e v6 ⟨G6, rfl, a6, f6⟩
    have hS := HKS.out _ _ f6
    have HF := Hf (HFI.out _ _ a6 f6)
    clear a6 f6; rw [hp]
    refine hK.out _ _ hS fun Hl => ?_; clear hK K
    refine Tm 6 ?pQ ?vQ Hl ?rQ
    refine Tm 7 ?pR ?vR Hl ?rR
    simp only [Act.put, Pa, Pb, Pc]
    refine wpAnyH_done (by kernel_rfl) ?_ _
    go_wp2
    go_ret2
    exact HF.out
   | false =>
    obtain ⟨W1, HW1⟩ := Nh (w.alloc (.cells #[.int .i64 v.s, .int .i64 v.b.i, .int .i64 v.b.t, .string v.v] 48))
    have hb1 : Below w.heap.size w W1 := by rw [← HW1.out]; exact bel1 w _
    have hr1 : W1.heap[w.heap.size]? = some (.cells #[.int .i64 v.s, .int .i64 v.b.i, .int .i64 v.b.t, .string v.v] 48 (0, 0)) := by rw [← HW1.out]; exact heap_alloc_last w _
    have hd1 := h.keep hb1
    have hrf := hd1.refused
    rw [hcut] at hrf
    have HTR : Hid (∀ w', Below W1.heap.size W1 w' → Calls Tryz.prog 56 #[ptr b] w' (TrO w' x.a)) := fun w' hb => (hd1.keep hb).trial hg.aok.2
    have HS : Hid (∀ w', Below W1.heap.size W1 w' → w'.cell? ⟨w.heap.size, 0, none⟩ = some (.int .i64 v.s) ∧ w'.cell? ⟨w.heap.size, 1, none⟩ = some (.int .i64 v.b.i) ∧ w'.cell? ⟨w.heap.size, 2, none⟩ = some (.int .i64 v.b.t) ∧ w'.cell? ⟨w.heap.size, 3, none⟩ = some (.string v.v)) := fun w' hb => (row4 (Br hr1 hb)).1
    have HR1 := Hf hr1
    have HB1 := Hf hb1
    have HH := Hf h
    have HG := Hf hg
    have HNF : Hid (¬ FA w.heap.size) := fun e => by have := (h.a.mine _ e).2; omega
    have HNB : Hid (¬ fpd b FA FD w.heap.size) := fun e => by have := (h.mine _ e).2; omega
    clear h hg hb1 hr1 hd1
    go_enter Tryz.func24, Tryz.ntmps24
    go_upto_region 1 with fail
    rw [HW1.out]; clear HW1
    go_wp2_with fail
    refine hrf.mono ?_; rintro e w2 ⟨rfl, hw2⟩
    obtain rfl := hw2.symm
    clear hrf hw2
    go_upto_region 4 with fail
    refine wp_region_held_drew (S := fun wq => Below (W1).heap.size (W1) wq) (by kernel_rfl) (Below.drew (Below.refl _ _)) fun Hl => ?_
    refine Tm 0 ?pS ?vS Hl ?rS
    refine Tk 2 ?pT ?vT ?yT Hl ?rT
    case yT => intro q h; obtain ⟨y0, y1, y2, y3⟩ := HS.out q h; go_simp; try with_reducible rfl
    simp only [Act.put, Pa, Pb, Pc]
    refine Rd 1 ?pU ?sU
    intro K hK; go_simp
    have HH0 := Hf Hl
    refine (HTR.out _ Hl).mono ?_; rintro e v1 ⟨tb, Ft, rfl, a1⟩
    have B1 : Below W1.heap.size W1 v1 := Hl.trans (a1.bel.mono Hl.size)
    have HA1 := Hf a1
    clear a1
    refine hK.out _ _ B1 fun Hl => ?_; clear hK K
    refine Rd 3 ?pV ?sV
    intro K hK; go_simp
    refine (HA1.out.accept v).mono ?_; rintro e v4 ⟨_, rfl, a4, _⟩
    have B4 : Below W1.heap.size W1 v4 := HH0.out.trans (a4.bel.mono HH0.out.size)
    clear a4 HA1 HH0; rw [tri_acb, hp]
    refine hK.out _ _ B4 fun Hl => ?_; clear hK K
    refine Tm 4 ?pW ?vW Hl ?rW
    simp only [Act.put, Pa, Pb, Pc]
    refine wpAnyH_done (by kernel_rfl) ?_ _
    have HB4 := Hf (Bu HB1.out Hl Lr)
    have HR4 := Hf (Br HR1.out Hl)
    clear Hl HS HTR HR1 HB1
    obtain ⟨⟨c0, c1, c2, c3⟩, _⟩ := row4 HR4.out
    have hhs := (HH.out.keep HB4.out).has v
    rw [he] at hhs
    go_wp2_with fail
    refine hhs.mono ?_; rintro e w7 ⟨rfl, hb7⟩
    have HB7 := Hf (Bu HB4.out hb7 Lr)
    have HR7 := Hf (Br HR4.out hb7)
    clear hhs hb7 HB4 HR4 c0 c1 c2 c3
    have hpr := fun W => voteRecord_any v W
    obtain ⟨⟨c0, c1, c2, c3⟩, _⟩ := row4 HR7.out
    go_wp2_with fail
    refine (hpr _).mono ?_; rintro e w8 ⟨rfl, hb8⟩
    have HB8 := Hf (Bu HB7.out hb8 Lr)
    have HR8 := Hf (Br HR7.out hb8)
    have had := (HH.out.keep HB8.out).add HG.out (.vo v) (acb_wf HG.out.aok.1 hp)
    clear hpr hb8 HB7 HR7 c0 c1 c2 c3
    go_wp2_with fail
    refine had.mono ?_; rintro e w9 ⟨hy, hno⟩
    clear had
    by_cases hz : sec x.ep x.n (.vo v) ≤ hf n - x.us
    ·obtain ⟨G, rfl, hd9, hf9⟩ := hy hz
     have HDL := Hf hd9
     have HRL : Hid (w9.heap[w.heap.size]? = some (.cells #[.int .i64 v.s, .int .i64 v.b.i, .int .i64 v.b.t, .string v.v] 48 (0, 0))) := (hf9.block w.heap.size (Array.getElem?_eq_some_iff.1 HR8.out).1 HNB.out).trans HR8.out
     have HFL := Hf ((Fr.ofBelow HB8.out).trans hf9)
     clear hy hno hd9 hf9 HB8 HR8
     have HDd : Hid (DU w0 w9.drew FA G b ab db n (addP n P x (.vo v)) { x with n := x.n + 1, us := x.us + sec x.ep x.n (.vo v) }) := HDL.out.keep (Below.refl _ _).drew
     have HSI : Hid (w9.drew.cell? ⟨b, 0, none⟩ = some (ptr ab) ∧ w9.drew.cell? ⟨w.heap.size, 0, none⟩ = some (.int .i64 v.s) ∧ w9.drew.cell? ⟨w.heap.size, 1, none⟩ = some (.int .i64 v.b.i) ∧ w9.drew.cell? ⟨w.heap.size, 2, none⟩ = some (.int .i64 v.b.t) ∧ w9.drew.cell? ⟨w.heap.size, 3, none⟩ = some (.string v.v)) := ⟨(row7 HDL.out.row).1.1, (row4 HRL.out).1⟩
     have HKS : Hid (∀ w' G, Fr w9.drew FA w' G → w'.cell? ⟨b, 0, none⟩ = some (ptr ab) ∧ w'.cell? ⟨w.heap.size, 0, none⟩ = some (.int .i64 v.s) ∧ w'.cell? ⟨w.heap.size, 1, none⟩ = some (.int .i64 v.b.i) ∧ w'.cell? ⟨w.heap.size, 2, none⟩ = some (.int .i64 v.b.t) ∧ w'.cell? ⟨w.heap.size, 3, none⟩ = some (.string v.v)) := fun w' G hF =>
      ⟨(row7 ((hF.block b HDL.out.lt HDL.out.na).trans HDL.out.row)).1.1, (row4 ((hF.block w.heap.size (Array.getElem?_eq_some_iff.1 HRL.out).1 HNF.out).trans HRL.out)).1⟩
     have HCL := Hf (HDd.out.a.accept v)
     have HFI : Hid (∀ w' G', AS w0 w' G' ab (Na.M.acs x.a v) → Fr w9.drew FA w' G' → AaO w0 w FA FD b ab db n x v (.returned (.tuple #[.bool true, .int .i64 0])) w') := fun w' G' ha hF => by
      have hrm : rm n x (.vo v) = true := decide_eq_true hz
      have e1 : aab n x v = true := by unfold aab; rw [hcut, hp, hrm]; simp
      have e2 : aac n x v = 0 := by unfold aac; rw [if_neg (by rw [hcut]; simp), if_neg (by rw [hrm]; simp)]
      have e4 : aax n x v = addX x (.vo v) := by unfold aax; rw [if_pos ⟨e1, he⟩]
      have h1 := HDd.out.chA ha hF
      refine ⟨by rw [e1, e2], ?_⟩
      have hgd := HG.out.add (.vo v) (acb_wf HG.out.aok.1 hp) hz
      rw [e4]
      exact ⟨G', G, addP n P x (.vo v), rs ++ [.vo v], h1.1, hgd, (HFL.out.trans (Fr.ofBelow (Below.refl _ _).drew)).trans h1.2⟩
     clear HDL HRL HDd HFL HH HG HNF HNB
     go_upto_region 10 with fail
     refine wp_region_held_drew (S := (fun wq => wq.cell? ⟨b, 0, none⟩ = some (ptr ab) ∧ wq.cell? ⟨w.heap.size, 0, none⟩ = some (.int .i64 v.s) ∧ wq.cell? ⟨w.heap.size, 1, none⟩ = some (.int .i64 v.b.i) ∧ wq.cell? ⟨w.heap.size, 2, none⟩ = some (.int .i64 v.b.t) ∧ wq.cell? ⟨w.heap.size, 3, none⟩ = some (.string v.v))) (by kernel_rfl) HSI.out fun Hl => ?_
     refine Tm 0 ?pX ?vX Hl ?rX
     refine Tm 1 ?pY ?vY Hl ?rY
     refine Tm 2 ?pZ ?vZ Hl ?rZ
     refine Tk 3 ?pa ?va ?ya Hl ?ra
     case ya => intro wq hq; obtain ⟨z0, y0, y1, y2, y3⟩ := hq; go_simp; try with_reducible rfl
     refine Tk 4 ?pb ?vb ?yb Hl ?rb
     case yb => intro wq hq; obtain ⟨z0, y0, y1, y2, y3⟩ := hq; go_simp; try with_reducible rfl
     simp only [Act.put, Pa, Pb, Pc]
     refine Rd 5 ?pc ?sc
     intro K hK; go_simp
     refine HCL.out.mono ?_; rintro e v6 ⟨G6, rfl, a6, f6⟩
     have hS := HKS.out _ _ f6
     have HF := Hf (HFI.out _ _ a6 f6)
     clear a6 f6; rw [hp]
     refine hK.out _ _ hS fun Hl => ?_; clear hK K
     refine Tm 6 ?pd ?vd Hl ?rd
     refine Tm 7 ?pe ?ve Hl ?re
     simp only [Act.put, Pa, Pb, Pc]
     refine wpAnyH_done (by kernel_rfl) ?_ _
     go_wp2
     go_ret2
     exact HF.out
    ·obtain ⟨rfl, hb9⟩ := hno hz
     have HQ : Hid (AaO w0 w FA FD b ab db n x v (.returned (.tuple #[.bool false, .int .i64 5])) w9) := by
      have hrm : rm n x (.vo v) = false := decide_eq_false hz
      have e1 : aab n x v = false := by unfold aab; rw [he, hrm]; simp
      have e2 : aac n x v = 5 := by unfold aac; rw [if_neg (by rw [hcut]; simp), if_pos ⟨hp, he, hrm⟩]
      have e4 : aax n x v = x := by unfold aax; rw [if_neg (by rw [e1]; simp)]
      refine ⟨by rw [e1, e2], ?_⟩
      rw [e4]
      exact Chg.same HH.out HG.out (Bu HB8.out hb9 Lr)
     clear hy hno hb9 HB8 HR8 HH HG HNF HNB; go_wp2
     go_ret2
     exact HQ.out
theorem trs_twice {a : S} (ho : Na.M.Ok a) (u : Int) : redo a (.tr (Na.M.trs a u).base) = Na.M.trs a u := by
 have h0 := ho.b0
 have h1 := ho.b1
 show Na.M.trs a (max a.base (min u 1024)) = _
 unfold Na.M.trs
 have e1 : min (max a.base (min u 1024)) 1024 = max a.base (min u 1024) := by omega
 rw [e1]
 congr 1
 ·omega
 ·unfold Na.M.vts
  apply List.filter_congr
  intro x hx
  have := ho.lo x hx
  by_cases hq : min u 1024 ≤ x.s
  ·rw [decide_eq_true (by omega), decide_eq_true hq]
  ·rw [decide_eq_false (by omega), decide_eq_false hq]
theorem trs_base {a : S} (ho : Na.M.Ok a) (u : Int) (h : (Na.M.trs a u).base = a.base) : Na.M.trs a u = a := by
 have h2 : max a.base (min u 1024) = a.base := h
 unfold Na.M.trs; rw [h2, Na.M.vts_all (fun x hx => by have := ho.lo x hx; omega)]
theorem trs_wf {a : S} (ho : Na.M.Ok a) (u : Int) : Wf (.tr (Na.M.trs a u).base) := by
 have h0 := (Na.M.trs_ok ho u).b0
 have h1 := (Na.M.trs_ok ho u).b1
 exact ⟨by omega, by omega⟩
def TtO (w0 w : World) (FA FD : Nat → Prop) (b ab db n : Nat) (x : X) (u : Int) (e : Ending) (w' : World) : Prop :=
 e = .returned (.int .i64 (ttc n x u)) ∧ Chg w0 w FA FD b ab db n (ttx n x u) w'
theorem DU.trim (h : DU w0 w FA FD b ab db n P x) (hg : Gd n P x rs) (u : Int) : Calls Tryz.prog 26 #[ptr b, .int .i64 u] w (TtO w0 w FA FD b ab db n x u) := by
 cases hcut : x.cut with
 | true =>
  have hrf := h.refused
  rw [hcut] at hrf
  have HQ : Hid (TtO w0 w FA FD b ab db n x u (.returned (.int .i64 16)) w) := by
   have e2 : ttc n x u = 16 := by unfold ttc; rw [if_pos hcut]
   have e4 : ttx n x u = x := by unfold ttx; rw [if_neg (by rw [hcut]; simp)]
   refine ⟨by rw [e2], ?_⟩
   rw [e4]
   exact Chg.same h hg (Below.refl _ _)
  clear h hg
  go_enter Tryz.func26, Tryz.ntmps26
  go_wp2_with fail
  refine hrf.mono ?_; rintro e w2 ⟨rfl, rfl⟩
  clear hrf; go_wp2
  go_ret
  exact HQ.out
 | false =>
  have hrf := h.refused
  rw [hcut] at hrf
  have htr := h.trial hg.aok.2
  have HH := Hf h
  have HG := Hf hg
  have HT : Hid ((Na.M.trs (tri x.a) u).base = (Na.M.trs x.a u).base) := rfl
  clear h hg
  go_enter Tryz.func26, Tryz.ntmps26
  go_wp2_with fail
  refine hrf.mono ?_; rintro e w2 ⟨rfl, rfl⟩
  clear hrf
  go_wp2_with fail
  refine htr.mono ?_; rintro e w3 ⟨tb, F3, rfl, a3⟩
  have htm := a3.trim u
  clear htr a3
  go_wp2_with fail
  refine htm.mono ?_; rintro e w4 ⟨F4, rfl, a4, _⟩
  have hb4 := a4.base
  have HA4 := Hf a4
  have hbb := (HH.out.keep a4.bel).base
  rw [HT.out] at hb4; clear htm a4
  go_wp2_with fail
  refine hb4.mono ?_; rintro e w5 ⟨rfl, hw5⟩
  obtain rfl := hw5.symm
  clear hb4 hw5
  go_wp2_with fail
  refine hbb.mono ?_; rintro e w6 ⟨rfl, hw6⟩
  obtain rfl := hw6.symm
  clear hbb hw6
  by_cases he : (Na.M.trs x.a u).base = x.a.base
  ·have HQ : Hid (TtO w0 w2 FA FD b ab db n x u (.returned (.int .i64 0)) w4) := by
    have e1 : ttb x u = true := decide_eq_true he
    have e2 : ttc n x u = 0 := by unfold ttc; rw [if_neg (by rw [hcut]; simp), if_neg (by rw [e1]; simp)]
    have e4 : ttx n x u = x := by unfold ttx; rw [if_neg (by rw [e1]; simp)]
    refine ⟨by rw [e2], ?_⟩
    rw [e4]
    exact Chg.same HH.out HG.out HA4.out.bel
   clear HH HG HA4 HT; go_wp2
   go_ret
   exact HQ.out
  ·have he' : ((Na.M.trs x.a u).base == x.a.base) = false := by rw [beq_eq_false_iff_ne]; exact he
   have hb4 := HA4.out.base
   rw [HT.out] at hb4
   have htr := fun W => trimRecord_any (Na.M.trs x.a u).base W
   have HTB : Hid (ttb x u = false) := decide_eq_false he
   go_wp2_with fail
   refine hb4.mono ?_; rintro e w5 ⟨rfl, hw5⟩
   obtain rfl := hw5.symm
   clear hb4 hw5
   go_wp2_with fail
   refine (htr _).mono ?_; rintro e w8 ⟨rfl, hb8⟩
   have HB8 := Hf (Bu HA4.out.bel hb8 Lr)
   have had := (HH.out.keep HB8.out).add HG.out (.tr (Na.M.trs x.a u).base) (trs_wf HG.out.aok.1 u)
   clear htr hb8 HA4
   go_wp2_with fail
   refine had.mono ?_; rintro e w9 ⟨hy, hno⟩
   clear had
   by_cases hz : sec x.ep x.n (.tr (Na.M.trs x.a u).base) ≤ hf n - x.us
   ·obtain ⟨G, rfl, hd9, hf9⟩ := hy hz
    obtain ⟨⟨c0, _⟩, _⟩ := row7 hd9.row
    have htm := hd9.a.trim u
    have HFI : Hid (∀ w' G', AS w0 w' G' ab (Na.M.trs x.a u) → Fr w9 FA w' G' → TtO w0 w2 FA FD b ab db n x u (.returned (.int .i64 0)) w') := fun w' G' ha hF => by
     have hrm : rm n x (.tr (Na.M.trs x.a u).base) = true := decide_eq_true hz
     have e2 : ttc n x u = 0 := by unfold ttc; rw [if_neg (by rw [hcut]; simp), if_neg (by rw [hrm]; simp)]
     have e4 : ttx n x u = addX x (.tr (Na.M.trs x.a u).base) := by unfold ttx; rw [if_pos ⟨hcut, HTB.out, hrm⟩]
     have h1 := hd9.chA ha hF
     have hgd := HG.out.add (.tr (Na.M.trs x.a u).base) (trs_wf HG.out.aok.1 u) hz
     refine ⟨by rw [e2], ?_⟩
     rw [e4]
     refine ⟨G', G, addP n P x (.tr (Na.M.trs x.a u).base), rs ++ [.tr (Na.M.trs x.a u).base], ?_, hgd, ((Fr.ofBelow HB8.out).trans hf9).trans h1.2⟩
     have e5 : addX x (.tr (Na.M.trs x.a u).base) = { x with n := x.n + 1, us := x.us + sec x.ep x.n (.tr (Na.M.trs x.a u).base), a := Na.M.trs x.a u } := by unfold addX; rw [trs_twice HG.out.aok.1]
     rw [e5]
     exact h1.1
    clear hy hno hd9 hf9 HB8 HH HG HT HTB
    go_wp2_with fail
    refine htm.mono ?_; rintro e w10 ⟨G', rfl, a10, f10⟩
    have HF := Hf (HFI.out _ _ a10 f10)
    clear htm a10 f10 HFI c0; go_wp2
    go_ret
    exact HF.out
   ·obtain ⟨rfl, hb9⟩ := hno hz
    have HQ : Hid (TtO w0 w2 FA FD b ab db n x u (.returned (.int .i64 5)) w9) := by
     have hrm : rm n x (.tr (Na.M.trs x.a u).base) = false := decide_eq_false hz
     have e2 : ttc n x u = 5 := by unfold ttc; rw [if_neg (by rw [hcut]; simp), if_pos ⟨HTB.out, hrm⟩]
     have e4 : ttx n x u = x := by unfold ttx; rw [if_neg (by rw [hrm]; simp)]
     refine ⟨by rw [e2], ?_⟩
     rw [e4]
     exact Chg.same HH.out HG.out (Bu HB8.out hb9 Lr)
    clear hy hno hb9 HB8 HH HG HT HTB; go_wp2
    go_ret
    exact HQ.out
end
end Go.Proofs.YtlnedgjikkhplaaGreat.Du
namespace Go.Proofs.YtlnedgjikkhplaaGreat.Na
open Go.RowKit
open M (E V)
abbrev aV (a : M.S) (ad : Option Addr) (c : Nat) : Value := .agg #[.int .i64 a.p.i, .int .i64 a.p.t, .int .i64 a.base, .slice ad a.l.length c]
theorem Tryz.size39 : (Tryz.prog.info? 39).map (·.size) = some 4 := by kernel_rfl
theorem res31 {fn : Func} {p u : Tmp} (h : fn.results = #[.cell p 39, .tmp u]) (tmps : Array Value) (w : World) (g : Nat) (v0 v1 v2 v3 : Value) (hp : tmps.getD p undef = .pointer (some ⟨g, 0, none⟩)) (hg : w.heap[g]? = some (.cells #[v0, v1, v2, v3] 39 (0, 0))) :
  (results fn tmps).run Tryz.prog w = .ok (.tuple #[.agg #[v0, v1, v2, v3], tmps.getD u undef]) w := by
 have hp' : tmps[p]?.getD undef = .pointer (some ⟨g, 0, none⟩) := by simpa using hp
 rw [results_cell_tmp h]
 simp [asAddr, hp', run_loadVar_row w g 39 39 #[v0, v1, v2, v3] (0, 0) _ hg Tryz.underlying39 rfl Tryz.size39]
theorem results_cell_tmps {fn : Func} {p u u' : Tmp} {ty : TypeId} (h : fn.results = #[.cell p ty, .tmp u, .tmp u']) (tmps : Array Value) (P : Program) (w : World) :
  (results fn tmps).run P w = ((asAddr (tmps.getD p undef)).run P w).andThen fun a w₁ => ((loadVar ty a).run P w₁).andThen fun v w₂ => .ok (.tuple #[v, tmps.getD u undef, tmps.getD u' undef]) w₂ := by
 simp only [results, h]
 simp [Sem.run_bind, Result.andThen]
theorem res31_3 {fn : Func} {p u u' : Tmp} (h : fn.results = #[.cell p 39, .tmp u, .tmp u']) (tmps : Array Value) (w : World) (g : Nat) (v0 v1 v2 v3 : Value) (hp : tmps.getD p undef = .pointer (some ⟨g, 0, none⟩)) (hg : w.heap[g]? = some (.cells #[v0, v1, v2, v3] 39 (0, 0))) :
  (results fn tmps).run Tryz.prog w = .ok (.tuple #[.agg #[v0, v1, v2, v3], tmps.getD u undef, tmps.getD u' undef]) w := by
 have hp' : tmps[p]?.getD undef = .pointer (some ⟨g, 0, none⟩) := by simpa using hp
 rw [results_cell_tmps h]
 simp [asAddr, hp', run_loadVar_row w g 39 39 #[v0, v1, v2, v3] (0, 0) _ hg Tryz.underlying39 rfl Tryz.size39]
theorem rmay_any (a : M.S) (ad : Option Addr) (c : Nat) (x : E) (w : World) : Calls Tryz.prog 60 #[aV a ad c, bV x] w fun e w' => e = .returned (.bool (M.may a x)) ∧ Below w.heap.size w w' := by
 have HM : Hid (M.may a x = (M.vld x && decide (0 ≤ M.cmpE x a.p))) := rfl
 rw [HM.out]; clear HM
 obtain ⟨W1, HW1⟩ := Nh ((w.alloc (.cells #[.int .i64 a.p.i, .int .i64 a.p.t, .int .i64 a.base, .slice ad a.l.length c] 39)).alloc (.cells #[.int .i64 x.i, .int .i64 x.t] 36))
 have HB1 : Hid (Below w.heap.size w W1) := by rw [← HW1.out]; exact bel2 w _ _
 have hr1 : W1.heap[w.heap.size]? = some (.cells #[.int .i64 a.p.i, .int .i64 a.p.t, .int .i64 a.base, .slice ad a.l.length c] 39 (0, 0)) := by rw [← HW1.out]; exact heap_alloc2_old w _ _
 have hr2 : W1.heap[w.heap.size + 1]? = some (.cells #[.int .i64 x.i, .int .i64 x.t] 36 (0, 0)) := by rw [← HW1.out]; exact heap_alloc2_new w _ _
 have HR1 := Hf hr1
 have HR2 := Hf hr2
 obtain ⟨⟨z0, z1, z2, z3⟩, _⟩ := row4 hr1
 obtain ⟨⟨y0, y1⟩, _⟩ := row2 hr2
 have hv := rvalid_any x W1
 clear hr1 hr2
 cases hx : M.vld x with
 | true =>
  rw [hx] at hv; rw [Bool.true_and]; clear hx
  go_enter Tryz.func60, Tryz.ntmps60
  go_upto_region 1 with fail
  rw [HW1.out]
  go_wp2_with fail
  refine hv.mono ?_; rintro e w2 ⟨rfl, hb2⟩
  obtain ⟨⟨x0, x1, x2, x3⟩, _⟩ := row4 (Br HR1.out hb2)
  obtain ⟨⟨u0, u1⟩, _⟩ := row2 (Br HR2.out hb2)
  have HB2 := Hf (Bu HB1.out hb2 Lr)
  clear hb2 hv z0 z1 z2 z3 y0 y1
  go_wp2_with fail
  refine (rcmp_any x a.p _).mono ?_; rintro e w3 ⟨rfl, hb3⟩
  have HB3 := Hf (Bu HB2.out hb3 Lr)
  clear hb3; go_wp2
  go_ret
  exact ⟨rfl, HB3.out⟩
 | false =>
  rw [hx] at hv; rw [Bool.false_and]; clear hx
  go_enter Tryz.func60, Tryz.ntmps60
  go_upto_region 1 with fail
  rw [HW1.out]
  go_wp2_with fail
  refine hv.mono ?_; rintro e w2 ⟨rfl, hb2⟩
  have HB2 := Hf (Bu HB1.out hb2 Lr)
  clear hb2 hv; go_wp2
  go_ret
  exact ⟨rfl, HB2.out⟩
theorem rvotes_any (a : M.S) (ad : Option Addr) (c : Nat) (kk : Int) (w : World) (hx : XL vl w ad c a.l) (hl : a.l.length ≤ 1024) : Calls Tryz.prog 61 #[aV a ad c, .int .i64 kk] w (RV w (M.vts a.l kk)) := by
 obtain ⟨W1, HW1⟩ := Nh (w.alloc (.cells #[.int .i64 a.p.i, .int .i64 a.p.t, .int .i64 a.base, .slice ad a.l.length c] 39))
 have hb1 : Below w.heap.size w W1 := by rw [← HW1.out]; exact bel1 w _
 have hr1 : W1.heap[w.heap.size]? = some (.cells #[.int .i64 a.p.i, .int .i64 a.p.t, .int .i64 a.base, .slice ad a.l.length c] 39 (0, 0)) := by rw [← HW1.out]; exact heap_alloc_last w _
 have HB1 := Hf hb1
 have HR1 := Hf hr1
 have HAT := Hf (hx.at'.keep hb1)
 clear hb1 hr1 hx
 go_enter Tryz.func61, Tryz.ntmps61
 go_wp2; rw [HW1.out]
 clear HW1
 go_loopw [6, 5] (fun i u wr => ∃ k : Nat, k ≤ a.l.length ∧ i = .int .i64 k ∧ OwnL vl 48 wr W1.heap.size u (M.vts (a.l.take k) kk) ∧ Below W1.heap.size W1 wr) (fun i u _ => a.l.length - (intOf i).toNat)
 case atStart => exact ⟨0, Nat.zero_le _, rfl, OwnL.nil _ _ _, Below.refl _ _⟩
 case round =>
  obtain ⟨k, hk, rfl, ho, hbl⟩ := hrel
  obtain ⟨⟨z0, z1, z2, z3⟩, _⟩ := row4 (Br HR1.out hbl)
  obtain ⟨a1, cap1, rfl, hx1, _⟩ := ho.at
  have hlm : (M.vts (a.l.take k) kk).length ≤ 1024 := Nat.le_trans (M.vts_le _ _) (by simp; omega)
  by_cases hlt : k < a.l.length
  ·obtain ⟨g0, off0, rfl, q0, q1, q2, q3⟩ := (HAT.out.keep hbl).getV k hlt
   have HT := Hf (M.vts_snoc a.l kk k hlt)
   have hki : (k : Int) < (a.l.length : Int) := by omega
   generalize M.vts (a.l.take k) kk = O at *
   by_cases hge : kk ≤ a.l[k].s
   ·obtain ⟨a', c', w4, hrun, ho4, hr4⟩ := app1 a.l[k] ho (by have := hbl.size; omega) (by omega)
    have HB4 : Hid (Below W1.heap.size W1 w4) := hbl.trans (hr4.below (fun j hj => (ho.lt hj).1) hbl.size)
    have HO4 := Hf ho4
    rw [if_pos hge] at HT
    have dge : decide (kk ≤ a.l[k].s) = true := decide_eq_true hge
    clear ho hbl hx1 ho4 hr4 hge
    generalize a.l[k] = x at *
    go_wp2_with (at_builtin; refine wpList_append_known rfl _ _ 37 rfl _ _ rfl rfl _ _ (hrun _) ?_)
    go_roundw
    case rel => exact ⟨k + 1, by omega, by go_num, by rw [HT.out]; exact HO4.out, HB4.out⟩
    case measure => simp [intOf]; omega
   ·have HB4 := Hf hbl
    have HO4 := Hf ho
    rw [if_neg hge] at HT
    have dge : decide (kk ≤ a.l[k].s) = false := decide_eq_false hge
    clear ho hbl hx1 hge
    generalize a.l[k] = x at *
    go_wp2
    go_roundw
    case rel => exact ⟨k + 1, by omega, by go_num, by rw [HT.out]; exact HO4.out, HB4.out⟩
    case measure => simp [intOf]; omega
  ·obtain rfl : k = a.l.length := by omega
   have HQ : Hid (RV w (M.vts a.l kk) (.returned (.slice a1 (M.vts (a.l.take a.l.length) kk).length cap1)) wr) := ⟨_, rfl, by rw [List.take_length] at ho ⊢; exact ho.low HB1.out.size, Bu HB1.out hbl Lr⟩
   clear ho hbl hx1; go_wp2
   go_ret
   exact HQ.out
def DS (w : World) (a : M.S) (v : Value) (w' : World) : Prop := ∃ ad c, v = aV a ad c ∧ XL vl w' ad c a.l ∧ (∀ j, blk ad j → w.heap.size ≤ j ∧ j < w'.heap.size) ∧ Below w.heap.size w w'
theorem ds_of {w w2 w' : World} {a2 : Option Addr} {c2 m : Nat} {l : List V} {G : Nat → Prop} (hb : Below w.heap.size w w2) (hx : XL vl w2 a2 c2 l) (hbk : ∀ j, blk a2 j → m ≤ j ∧ j < w2.heap.size) (hF : Fr w2 G w' G) (hG : ∀ k, G k → w.heap.size ≤ k ∧ k < m) (hm : w.heap.size ≤ m := by omega) :
  XL vl w' a2 c2 l ∧ (∀ j, blk a2 j → w.heap.size ≤ j ∧ j < w'.heap.size) ∧ Below w.heap.size w w' :=
 ⟨hx.keepBut fun k _ hk => hF.block k (hbk k hk).2 (fun hg => by have := (hG k hg).2; have := (hbk k hk).1; omega), fun j hj => ⟨by have := (hbk j hj).1; omega, Nat.lt_of_lt_of_le (hbk j hj).2 hF.size⟩, hb.trans (hF.below (fun k hk => (hG k hk).1) hb.size)⟩
theorem f27_res : Tryz.f27.results = #[.cell 4 39, .tmp 5] := rfl
theorem rtrim_any (a : M.S) (ad : Option Addr) (c : Nat) (u : Int) (w : World) (hx : XL vl w ad c a.l) (hl : a.l.length ≤ 1024) : Calls Tryz.prog 27 #[aV a ad c, .int .i64 u] w fun e w' => ∃ v, e = .returned (.tuple #[v, .int .i64 (M.trn a u : Nat)]) ∧ DS w (M.trs a u) v w' := by
 obtain ⟨mu, HMU⟩ := Nh (min u 1024)
 obtain ⟨W1, HW1⟩ := Nh ((w.alloc (.cells #[.int .i64 a.p.i, .int .i64 a.p.t, .int .i64 a.base, .slice ad a.l.length c] 39)).alloc (.cells #[.int .i64 0, .int .i64 0, .int .i64 0, .slice none 0 0] 39))
 have hb1 : Below w.heap.size w W1 := by rw [← HW1.out]; exact bel2 w _ _
 have hr1 : W1.heap[w.heap.size]? = some (.cells #[.int .i64 a.p.i, .int .i64 a.p.t, .int .i64 a.base, .slice ad a.l.length c] 39 (0, 0)) := by rw [← HW1.out]; exact heap_alloc2_old w _ _
 have hr2 : W1.heap[w.heap.size + 1]? = some (.cells #[.int .i64 0, .int .i64 0, .int .i64 0, .slice none 0 0] 39 (0, 0)) := by rw [← HW1.out]; exact heap_alloc2_new w _ _
 have hv := rvotes_any a ad c mu W1 (hx.keep hb1) hl
 have HB1 := Hf hb1
 have HR1 := Hf hr1
 have HR2 := Hf hr2
 obtain ⟨⟨z0, z1, z2, z3⟩, _⟩ := row4 hr1
 clear hb1 hr1 hr2 hx
 go_enter Tryz.func27, Tryz.ntmps27
 go_upto_region 1 with fail
 rw [HW1.out]
 go_wp2_with fail
 rw [HMU.out]
 refine hv.mono ?_; rintro e w2 ⟨v2, rfl, ho2, hb2⟩
 obtain ⟨a2, c2, rfl, hx2, hbk2⟩ := ho2.at
 have hR1 := Br HR1.out hb2
 have hR2 := Br HR2.out hb2
 have hb02 := Bu HB1.out hb2 Lr
 obtain ⟨⟨x0, x1, x2, x3⟩, xf⟩ := row4 hR1
 obtain ⟨⟨y0, y1, y2, y3⟩, yf⟩ := row4 hR2
 have xf2 := xf 2
 have xf3 := xf 3
 have yf0 := yf 0
 have yf1 := yf 1
 have yf2 := yf 2
 have yf3 := yf 3
 have hlv := M.vts_le a.l mu
 have hw : IntKind.i64.wrap ((a.l.length : Int) - ((M.vts a.l mu).length : Int)) = ((M.trn a u : Nat) : Int) := by
  unfold M.trn; rw [HMU.out, IntKind.wrap_i64]
  omega
 have hW1 : w.heap.size + 1 < W1.heap.size := (Array.getElem?_eq_some_iff.1 HR2.out).1
 have hrow3 : (put4 ((w2.setCell ⟨w.heap.size, 3, none⟩ (.slice a2 (M.vts a.l mu).length c2)).setCell ⟨w.heap.size, 2, none⟩ (.int .i64 (max a.base mu))) (w.heap.size + 1) (.int .i64 a.p.i) (.int .i64 a.p.t) (.int .i64 (max a.base mu)) (.slice a2 (M.vts a.l mu).length c2)).heap[w.heap.size + 1]? = some (.cells #[.int .i64 a.p.i, .int .i64 a.p.t, .int .i64 (max a.base mu), .slice a2 (M.vts a.l mu).length c2] 39 (0, 0)) :=
  put4_row (((heap_setCell_other _ ⟨w.heap.size, 2, none⟩ _ _ (by simp)).trans (heap_setCell_other _ ⟨w.heap.size, 3, none⟩ _ _ (by simp))).trans hR2) _ _ _ _
 have HROW := Hf hrow3
 have HDS : Hid (DS w (M.trs a u) (.agg #[.int .i64 a.p.i, .int .i64 a.p.t, .int .i64 (max a.base mu), .slice a2 (M.vts a.l mu).length c2]) (put4 ((w2.setCell ⟨w.heap.size, 3, none⟩ (.slice a2 (M.vts a.l mu).length c2)).setCell ⟨w.heap.size, 2, none⟩ (.int .i64 (max a.base mu))) (w.heap.size + 1) (.int .i64 a.p.i) (.int .i64 a.p.t) (.int .i64 (max a.base mu)) (.slice a2 (M.vts a.l mu).length c2))) := by
  have hg0 : (fun k => k = w.heap.size ∨ k = w.heap.size + 1) w.heap.size := .inl rfl
  have hg1 : (fun k => k = w.heap.size ∨ k = w.heap.size + 1) (w.heap.size + 1) := .inr rfl
  have hF := fr_set (fr_set (fr_set (fr_set (fr_set (fr_set (Fr.refl w2 fun k => k = w.heap.size ∨ k = w.heap.size + 1) hg0 3 (.slice a2 (M.vts a.l mu).length c2)) hg0 2 (.int .i64 (max a.base mu))) hg1 0 (.int .i64 a.p.i)) hg1 1 (.int .i64 a.p.t)) hg1 2 (.int .i64 (max a.base mu))) hg1 3 (.slice a2 (M.vts a.l mu).length c2)
  have e : M.trs a u = ⟨a.p, max a.base mu, M.vts a.l mu⟩ := by unfold M.trs; rw [HMU.out]
  obtain ⟨q1, q2, q3⟩ := ds_of hb02 hx2 (fun j hj => ⟨(hbk2 j hj).1, (hbk2 j hj).2.2⟩) hF (fun k hk => by rcases hk with rfl | rfl <;> omega)
  rw [e]
  exact ⟨a2, c2, rfl, q1, q2, q3⟩
 clear hb2 ho2 hx2 hbk2 hR1 hR2 hb02 xf yf hlv hW1 hrow3 hv HB1 HR1 HR2 z0 z1 z2 z3 HMU HW1
 obtain ⟨tn, HTN⟩ := Nh (M.trn a u)
 rw [HTN.out] at hw
 generalize (M.vts a.l mu).length = n2 at *
 go_wp2
 refine bodyPost_ret (v := .tuple #[.agg #[.int .i64 a.p.i, .int .i64 a.p.t, .int .i64 (max a.base mu), .slice a2 n2 c2], .int .i64 tn]) ?_ rfl ⟨_, by rw [HTN.out], HDS.out⟩
 exact res31 f27_res _ _ (w.heap.size + 1) _ _ _ _ rfl HROW.out
end Go.Proofs.YtlnedgjikkhplaaGreat.Na
