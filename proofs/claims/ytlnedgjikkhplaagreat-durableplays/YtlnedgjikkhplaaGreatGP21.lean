import Derived.Test.YtlnedgjikkhplaaGreatGP20
set_option maxRecDepth 100000
set_option maxHeartbeats 8000000
set_option linter.unusedVariables false
set_option linter.unusedSimpArgs false
namespace Go.Proofs.YtlnedgjikkhplaaGreat.Du
open Go.RowKit
open Na (Fr AS XL vl bV vV Hf bel1 bel2 Bu Br row2 row4 blk OwnL AtL)
open Na.M (E V S S0)
section
variable {w0 w w' : World} {FA FD FA' FD' : Nat → Prop} {b ab db n : Nat} {P P' : List Ns.M.Pl} {x x' : X} {a' : S}
theorem DU.bel (h : DU w0 w FA FD b ab db n P x) : Below w0.heap.size w0 w := h.a.bel
theorem DU.chA (h : DU w0 w FA FD b ab db n P x) (ha : AS w0 w' FA' ab a') (hF : Fr w FA w' FA') : DU w0 w' FA' FD b ab db n P { x with a := a' } ∧ Fr w (fpd b FA FD) w' (fpd b FA' FD) := by
 have hlt := h.lt
 refine ⟨⟨(hF.block b hlt h.na).trans h.row, ha, h.d.keepBut (fun k hk hk2 => hF.block k hk (fun e => h.ap k e hk2)) ha.bel, fun k hk hk2 => ?_, fun hk => ?_, h.nd, h.lo⟩, ⟨hF.os, hF.tape, hF.output, hF.size, fun k hk hn => hF.block k hk (fun e => hn (.inr (.inl e))), fun k hk => ?_⟩⟩
 ·rcases hF.n k hk with h' | h'
  ·exact h.ap k h' hk2
  ·have := (h.d.own k hk2).2; omega
 ·rcases hF.n b hk with h' | h'
  ·exact h.na h'
  ·omega
 ·rcases hk with rfl | hk | hk
  ·exact .inl (.inl rfl)
  ·rcases hF.n k hk with h' | h'
   ·exact .inl (.inr (.inl h'))
   ·exact .inr h'
  ·exact .inl (.inr (.inr hk))
theorem DU.chD (h : DU w0 w FA FD b ab db n P x) (hd : Ns.DS w0 w' db FD' n P' false) (hF : Fr w FD w' FD') : DU w0 w' FA FD' b ab db n P' x ∧ Fr w (fpd b FA FD) w' (fpd b FA FD') := by
 have hlt := h.lt
 have hst := h.a.step hF (fun k hk hk2 => h.ap k hk hk2) (fun k hk => (h.d.own k hk).1)
 refine ⟨⟨(hF.block b hlt h.nd).trans h.row, hst.1, hd, hst.2, h.na, fun hk => ?_, h.lo⟩, ⟨hF.os, hF.tape, hF.output, hF.size, fun k hk hn => hF.block k hk (fun e => hn (.inr (.inr e))), fun k hk => ?_⟩⟩
 ·rcases hF.n b hk with h' | h'
  ·exact h.nd h'
  ·omega
 ·rcases hk with rfl | hk | hk
  ·exact .inl (.inl rfl)
  ·exact .inl (.inr (.inl hk))
  ·rcases hF.n k hk with h' | h'
   ·exact .inl (.inr (.inr h'))
   ·exact .inr h'
theorem DU.chR (h : DU w0 w FA FD b ab db n P x) (hr : w'.heap[b]? = some (.cells (xrow ab db x') 90 (0, 0))) (hx : x'.a = x.a) (hF : Fr w (· = b) w' (· = b)) : DU w0 w' FA FD b ab db n P x' ∧ Fr w (fpd b FA FD) w' (fpd b FA FD) := by
 have hst := h.a.step hF (fun k hk e => h.na (e ▸ hk)) (fun k hk => hk ▸ h.lo)
 refine ⟨⟨hr, by rw [hx]; exact hst.1, h.d.keepBut (fun k hk hk2 => hF.block k hk (fun e => h.nd (e ▸ hk2))) hst.1.bel, h.ap, h.na, h.nd, h.lo⟩, ⟨hF.os, hF.tape, hF.output, hF.size, fun k hk hn => hF.block k hk (fun e => hn (.inl e)), fun k hk => .inl hk⟩⟩
theorem fr_cell {w w' : World} {b : Nat} (h : Fr w (· = b) w' (· = b)) (j : Nat) (v : Value) : Fr w (· = b) (w'.setCell ⟨b, j, none⟩ v) (· = b) :=
 ⟨h.os, h.tape, h.output, by have := h.size; simp; omega, fun k hk hn => by rw [heap_setCell_other _ ⟨b, j, none⟩ k _ hn]; exact h.block k hk hn, fun k hk => .inl hk⟩
theorem DU.redo (h : DU w0 w FA FD b ab db n P x) (r : R) : Calls Tryz.prog 39 #[ptr b, rV r] w fun e w' => ∃ G, e = .returned (.tuple #[]) ∧ DU w0 w' G FD b ab db n P { x with a := Du.redo x.a r } ∧ Fr w FA w' G := by
 cases r using R.split with
 | pr b' =>
  obtain ⟨W, HW⟩ := Nh (w.alloc (.cells #[.int .i64 1, .int .i64 0, .int .i64 b'.i, .int .i64 b'.t, .string ⟨#[]⟩, .int .i64 0] 97))
  have hb1 : Below w.heap.size w W := by rw [← HW.out]; exact bel1 w _
  have hr1 : W.heap[w.heap.size]? = some (.cells #[.int .i64 1, .int .i64 0, .int .i64 b'.i, .int .i64 b'.t, .string ⟨#[]⟩, .int .i64 0] 97 (0, 0)) := by rw [← HW.out]; exact heap_alloc_last w _
  obtain ⟨⟨c0, c1, c2, c3, c4, c5⟩, _⟩ := row6 hr1
  have hd := h.keep hb1
  have HD : Hid (DU w0 W.drew FA FD b ab db n P x) := hd.keep (Below.refl _ _).drew
  have HSI : Hid (W.drew.cell? ⟨b, 0, none⟩ = some (ptr ab) ∧ W.drew.cell? ⟨w.heap.size, 0, none⟩ = some (.int .i64 1) ∧ W.drew.cell? ⟨w.heap.size, 1, none⟩ = some (.int .i64 0) ∧ W.drew.cell? ⟨w.heap.size, 2, none⟩ = some (.int .i64 b'.i) ∧ W.drew.cell? ⟨w.heap.size, 3, none⟩ = some (.int .i64 b'.t) ∧ W.drew.cell? ⟨w.heap.size, 4, none⟩ = some (.string ⟨#[]⟩) ∧ W.drew.cell? ⟨w.heap.size, 5, none⟩ = some (.int .i64 0)) := ⟨(row7 hd.row).1.1, c0, c1, c2, c3, c4, c5⟩
  have hFAb : ¬ FA w.heap.size := fun e => by have := (h.a.mine _ e).2; omega
  have HKS : Hid (∀ w' G, Fr W.drew FA w' G → w'.cell? ⟨b, 0, none⟩ = some (ptr ab) ∧ w'.cell? ⟨w.heap.size, 0, none⟩ = some (.int .i64 1) ∧ w'.cell? ⟨w.heap.size, 1, none⟩ = some (.int .i64 0) ∧ w'.cell? ⟨w.heap.size, 2, none⟩ = some (.int .i64 b'.i) ∧ w'.cell? ⟨w.heap.size, 3, none⟩ = some (.int .i64 b'.t) ∧ w'.cell? ⟨w.heap.size, 4, none⟩ = some (.string ⟨#[]⟩) ∧ w'.cell? ⟨w.heap.size, 5, none⟩ = some (.int .i64 0)) := fun w' G hF =>
   ⟨(row7 ((hF.block b hd.lt hd.na).trans hd.row)).1.1, (row6 ((hF.block w.heap.size (Array.getElem?_eq_some_iff.1 hr1).1 hFAb).trans hr1)).1⟩
  have HFI : Hid (∀ w' G a', AS w0 w' G ab a' → Fr W.drew FA w' G → DU w0 w' G FD b ab db n P { x with a := a' } ∧ Fr w FA w' G) := fun w' G a' ha hF => by
   have h1 := HD.out.chA ha hF
   exact ⟨h1.1, (Fr.ofBelow (Bu hb1 (Below.refl _ _).drew Lr)).trans hF⟩
  have HBS := Hf HD.out.base
  have HCL := Hf (HD.out.a.promise b' x.a.base)
  clear h hd hb1 hr1 hFAb HD
  go_enter Tryz.func39, Tryz.ntmps39
  go_upto_region 1 with fail
  rw [HW.out]; clear HW
  go_upto_region 3 with fail
  clear c0 c1 c2 c3 c4 c5
  refine wp_region_held_drew (S := (fun wq => wq.cell? ⟨b, 0, none⟩ = some (ptr ab) ∧ wq.cell? ⟨w.heap.size, 0, none⟩ = some (.int .i64 1) ∧ wq.cell? ⟨w.heap.size, 1, none⟩ = some (.int .i64 0) ∧ wq.cell? ⟨w.heap.size, 2, none⟩ = some (.int .i64 b'.i) ∧ wq.cell? ⟨w.heap.size, 3, none⟩ = some (.int .i64 b'.t) ∧ wq.cell? ⟨w.heap.size, 4, none⟩ = some (.string ⟨#[]⟩) ∧ wq.cell? ⟨w.heap.size, 5, none⟩ = some (.int .i64 0))) (by kernel_rfl) HSI.out fun Hl => ?_
  refine Tm 0 ?pA ?vA Hl ?rA
  refine Tm 1 ?pB ?vB Hl ?rB
  refine Tm 2 ?pC ?vC Hl ?rC
  refine Tk 3 ?pD ?vD ?yD Hl ?rD
  case yD => intro wq hq; obtain ⟨z0, y0, y1, y2, y3, y4, y5⟩ := hq; go_simp; try with_reducible rfl
  refine Tm 4 ?pE ?vE Hl ?rE
  refine Tm 5 ?pF ?vF Hl ?rF
  refine Tk 6 ?pG ?vG ?yG Hl ?rG
  case yG => intro wq hq; obtain ⟨z0, y0, y1, y2, y3, y4, y5⟩ := hq; go_simp; try with_reducible rfl
  refine Tm 7 ?pH ?vH Hl ?rH
  simp only [Act.put, Pa, Pb, Pc]
  refine Rd 8 ?pI ?sI
  intro K hK; go_simp
  refine HBS.out.mono ?_; rintro e v8 ⟨rfl, rfl⟩
  refine hK.out _ _ Hl fun Hl => ?_; clear hK K
  refine Rd 9 ?pJ ?sJ
  intro K hK; go_simp
  refine HCL.out.mono ?_; rintro e v9 ⟨_, _, rfl, _, _, has, hfr⟩
  have HQ := Hf (HFI.out _ _ _ has hfr)
  have hS := HKS.out _ _ hfr
  clear has hfr
  refine hK.out _ _ hS fun Hl => ?_; clear hK K
  refine wpAnyH_done (by kernel_rfl) ?_ _
  go_wp2
  go_end0
  exact ⟨_, rfl, HQ.out⟩
 | vo v =>
  obtain ⟨W, HW⟩ := Nh (w.alloc (.cells #[.int .i64 2, .int .i64 v.s, .int .i64 v.b.i, .int .i64 v.b.t, .string v.v, .int .i64 0] 97))
  have hb1 : Below w.heap.size w W := by rw [← HW.out]; exact bel1 w _
  have hr1 : W.heap[w.heap.size]? = some (.cells #[.int .i64 2, .int .i64 v.s, .int .i64 v.b.i, .int .i64 v.b.t, .string v.v, .int .i64 0] 97 (0, 0)) := by rw [← HW.out]; exact heap_alloc_last w _
  obtain ⟨⟨c0, c1, c2, c3, c4, c5⟩, _⟩ := row6 hr1
  have hd := h.keep hb1
  have HD : Hid (DU w0 W.drew FA FD b ab db n P x) := hd.keep (Below.refl _ _).drew
  have HSI : Hid (W.drew.cell? ⟨b, 0, none⟩ = some (ptr ab) ∧ W.drew.cell? ⟨w.heap.size, 0, none⟩ = some (.int .i64 2) ∧ W.drew.cell? ⟨w.heap.size, 1, none⟩ = some (.int .i64 v.s) ∧ W.drew.cell? ⟨w.heap.size, 2, none⟩ = some (.int .i64 v.b.i) ∧ W.drew.cell? ⟨w.heap.size, 3, none⟩ = some (.int .i64 v.b.t) ∧ W.drew.cell? ⟨w.heap.size, 4, none⟩ = some (.string v.v) ∧ W.drew.cell? ⟨w.heap.size, 5, none⟩ = some (.int .i64 0)) := ⟨(row7 hd.row).1.1, c0, c1, c2, c3, c4, c5⟩
  have hFAb : ¬ FA w.heap.size := fun e => by have := (h.a.mine _ e).2; omega
  have HKS : Hid (∀ w' G, Fr W.drew FA w' G → w'.cell? ⟨b, 0, none⟩ = some (ptr ab) ∧ w'.cell? ⟨w.heap.size, 0, none⟩ = some (.int .i64 2) ∧ w'.cell? ⟨w.heap.size, 1, none⟩ = some (.int .i64 v.s) ∧ w'.cell? ⟨w.heap.size, 2, none⟩ = some (.int .i64 v.b.i) ∧ w'.cell? ⟨w.heap.size, 3, none⟩ = some (.int .i64 v.b.t) ∧ w'.cell? ⟨w.heap.size, 4, none⟩ = some (.string v.v) ∧ w'.cell? ⟨w.heap.size, 5, none⟩ = some (.int .i64 0)) := fun w' G hF =>
   ⟨(row7 ((hF.block b hd.lt hd.na).trans hd.row)).1.1, (row6 ((hF.block w.heap.size (Array.getElem?_eq_some_iff.1 hr1).1 hFAb).trans hr1)).1⟩
  have HFI : Hid (∀ w' G a', AS w0 w' G ab a' → Fr W.drew FA w' G → DU w0 w' G FD b ab db n P { x with a := a' } ∧ Fr w FA w' G) := fun w' G a' ha hF => by
   have h1 := HD.out.chA ha hF
   exact ⟨h1.1, (Fr.ofBelow (Bu hb1 (Below.refl _ _).drew Lr)).trans hF⟩
  have HBS := Hf HD.out.base
  have HCL := Hf (HD.out.a.accept v)
  clear h hd hb1 hr1 hFAb HD
  go_enter Tryz.func39, Tryz.ntmps39
  go_upto_region 1 with fail
  rw [HW.out]; clear HW
  go_upto_region 5 with fail
  clear c0 c1 c2 c3 c4 c5
  refine wp_region_held_drew (S := (fun wq => wq.cell? ⟨b, 0, none⟩ = some (ptr ab) ∧ wq.cell? ⟨w.heap.size, 0, none⟩ = some (.int .i64 2) ∧ wq.cell? ⟨w.heap.size, 1, none⟩ = some (.int .i64 v.s) ∧ wq.cell? ⟨w.heap.size, 2, none⟩ = some (.int .i64 v.b.i) ∧ wq.cell? ⟨w.heap.size, 3, none⟩ = some (.int .i64 v.b.t) ∧ wq.cell? ⟨w.heap.size, 4, none⟩ = some (.string v.v) ∧ wq.cell? ⟨w.heap.size, 5, none⟩ = some (.int .i64 0))) (by kernel_rfl) HSI.out fun Hl => ?_
  refine Tm 0 ?pK ?vK Hl ?rK
  refine Tm 1 ?pL ?vL Hl ?rL
  refine Tm 2 ?pM ?vM Hl ?rM
  refine Tk 3 ?pN ?vN ?yN Hl ?rN
  case yN => intro wq hq; obtain ⟨z0, y0, y1, y2, y3, y4, y5⟩ := hq; go_simp; try with_reducible rfl
  refine Tm 4 ?pO ?vO Hl ?rO
  refine Tk 5 ?pP ?vP ?yP Hl ?rP
  case yP => intro wq hq; obtain ⟨z0, y0, y1, y2, y3, y4, y5⟩ := hq; go_simp; try with_reducible rfl
  simp only [Act.put, Pa, Pb, Pc]
  refine Rd 6 ?pQ ?sQ
  intro K hK; go_simp
  refine HCL.out.mono ?_; rintro e v9 ⟨_, rfl, has, hfr⟩
  have HQ := Hf (HFI.out _ _ _ has hfr)
  have hS := HKS.out _ _ hfr
  clear has hfr
  refine hK.out _ _ hS fun Hl => ?_; clear hK K
  refine wpAnyH_done (by kernel_rfl) ?_ _
  go_wp2
  go_end0
  exact ⟨_, rfl, HQ.out⟩
 | tr u =>
  obtain ⟨W, HW⟩ := Nh (w.alloc (.cells #[.int .i64 3, .int .i64 0, .int .i64 0, .int .i64 0, .string ⟨#[]⟩, .int .i64 u] 97))
  have hb1 : Below w.heap.size w W := by rw [← HW.out]; exact bel1 w _
  have hr1 : W.heap[w.heap.size]? = some (.cells #[.int .i64 3, .int .i64 0, .int .i64 0, .int .i64 0, .string ⟨#[]⟩, .int .i64 u] 97 (0, 0)) := by rw [← HW.out]; exact heap_alloc_last w _
  obtain ⟨⟨c0, c1, c2, c3, c4, c5⟩, _⟩ := row6 hr1
  have hd := h.keep hb1
  have HD : Hid (DU w0 W.drew FA FD b ab db n P x) := hd.keep (Below.refl _ _).drew
  have HSI : Hid (W.drew.cell? ⟨b, 0, none⟩ = some (ptr ab) ∧ W.drew.cell? ⟨w.heap.size, 0, none⟩ = some (.int .i64 3) ∧ W.drew.cell? ⟨w.heap.size, 1, none⟩ = some (.int .i64 0) ∧ W.drew.cell? ⟨w.heap.size, 2, none⟩ = some (.int .i64 0) ∧ W.drew.cell? ⟨w.heap.size, 3, none⟩ = some (.int .i64 0) ∧ W.drew.cell? ⟨w.heap.size, 4, none⟩ = some (.string ⟨#[]⟩) ∧ W.drew.cell? ⟨w.heap.size, 5, none⟩ = some (.int .i64 u)) := ⟨(row7 hd.row).1.1, c0, c1, c2, c3, c4, c5⟩
  have hFAb : ¬ FA w.heap.size := fun e => by have := (h.a.mine _ e).2; omega
  have HKS : Hid (∀ w' G, Fr W.drew FA w' G → w'.cell? ⟨b, 0, none⟩ = some (ptr ab) ∧ w'.cell? ⟨w.heap.size, 0, none⟩ = some (.int .i64 3) ∧ w'.cell? ⟨w.heap.size, 1, none⟩ = some (.int .i64 0) ∧ w'.cell? ⟨w.heap.size, 2, none⟩ = some (.int .i64 0) ∧ w'.cell? ⟨w.heap.size, 3, none⟩ = some (.int .i64 0) ∧ w'.cell? ⟨w.heap.size, 4, none⟩ = some (.string ⟨#[]⟩) ∧ w'.cell? ⟨w.heap.size, 5, none⟩ = some (.int .i64 u)) := fun w' G hF =>
   ⟨(row7 ((hF.block b hd.lt hd.na).trans hd.row)).1.1, (row6 ((hF.block w.heap.size (Array.getElem?_eq_some_iff.1 hr1).1 hFAb).trans hr1)).1⟩
  have HFI : Hid (∀ w' G a', AS w0 w' G ab a' → Fr W.drew FA w' G → DU w0 w' G FD b ab db n P { x with a := a' } ∧ Fr w FA w' G) := fun w' G a' ha hF => by
   have h1 := HD.out.chA ha hF
   exact ⟨h1.1, (Fr.ofBelow (Bu hb1 (Below.refl _ _).drew Lr)).trans hF⟩
  have HBS := Hf HD.out.base
  have HCL := Hf (HD.out.a.trim u)
  clear h hd hb1 hr1 hFAb HD
  go_enter Tryz.func39, Tryz.ntmps39
  go_upto_region 1 with fail
  rw [HW.out]; clear HW
  go_upto_region 7 with fail
  clear c0 c1 c2 c3 c4 c5
  refine wp_region_held_drew (S := (fun wq => wq.cell? ⟨b, 0, none⟩ = some (ptr ab) ∧ wq.cell? ⟨w.heap.size, 0, none⟩ = some (.int .i64 3) ∧ wq.cell? ⟨w.heap.size, 1, none⟩ = some (.int .i64 0) ∧ wq.cell? ⟨w.heap.size, 2, none⟩ = some (.int .i64 0) ∧ wq.cell? ⟨w.heap.size, 3, none⟩ = some (.int .i64 0) ∧ wq.cell? ⟨w.heap.size, 4, none⟩ = some (.string ⟨#[]⟩) ∧ wq.cell? ⟨w.heap.size, 5, none⟩ = some (.int .i64 u))) (by kernel_rfl) HSI.out fun Hl => ?_
  refine Tm 0 ?pR ?vR Hl ?rR
  refine Tm 1 ?pS ?vS Hl ?rS
  refine Tm 2 ?pT ?vT Hl ?rT
  refine Tk 3 ?pU ?vU ?yU Hl ?rU
  case yU => intro wq hq; obtain ⟨z0, y0, y1, y2, y3, y4, y5⟩ := hq; go_simp; try with_reducible rfl
  refine Tm 4 ?pV ?vV Hl ?rV
  refine Tk 5 ?pW ?vW ?yW Hl ?rW
  case yW => intro wq hq; obtain ⟨z0, y0, y1, y2, y3, y4, y5⟩ := hq; go_simp; try with_reducible rfl
  simp only [Act.put, Pa, Pb, Pc]
  refine Rd 6 ?pX ?sX
  intro K hK; go_simp
  refine HCL.out.mono ?_; rintro e v9 ⟨_, rfl, has, hfr⟩
  have HQ := Hf (HFI.out _ _ _ has hfr)
  have hS := HKS.out _ _ hfr
  clear has hfr
  refine hK.out _ _ hS fun Hl => ?_; clear hK K
  refine wpAnyH_done (by kernel_rfl) ?_ _
  go_wp2
  go_end0
  exact ⟨_, rfl, HQ.out⟩
end
open Ns.M (ofL)
theorem stateText_any (a : Nat) (ha : a ≤ 1) (w : World) : Calls Tryz.prog 76 #[.int .i64 a] w fun e w' => e = .returned (.string (ofL [UInt8.ofNat a])) ∧ Below w.heap.size w w' := by
 have hcv := Nc.one_convert w a (by omega)
 have HB := Hf (fun o => bel1 w o)
 have h256 : (a : Int) % 256 = a := by omega
 go_enter Tryz.func76, Tryz.ntmps76
 go_wp2
 go_ret
 exact ⟨rfl, HB.out _⟩
theorem str_ne {a b : UInt8} (h : a ≠ b) : ((ofL [a]).toList == (ofL [b]).toList) = false := by
 rw [beq_eq_false_iff_ne]
 intro e; rw [ByteArray.toList_eq, ByteArray.toList_eq] at e
 simp [Ns.M.ofL] at e
 exact h e
theorem stateOf_any {w0 w : World} {F : Nat → Prop} {db n : Nat} {P : List Ns.M.Pl} {ar ep : Nat} (h : Ns.DS w0 w db F n P false) (h8 : 8 ≤ n) (ha : ar ≤ 1) (hs : Ns.rdP (P.take 8) = (ep, bif decide (ep = 0) then [] else [UInt8.ofNat ar])) (h0 : ep = 0 → ar = 0) :
  Calls Tryz.prog 33 #[ptr db] w fun e w' => e = .returned (.tuple #[.int .i64 ar, .int .i64 ep, .int .i64 0]) ∧ Below w.heap.size w w' := by
 have hr := h.sread h8
 rw [hs] at hr; clear h hs h8
 by_cases he : ep = 0
 ·subst he
  have := h0 rfl
  subst this; rw [show Ns.rcode (0, bif decide (0 = 0) then [] else [UInt8.ofNat 0]) = 7 from rfl] at hr
  go_enter Tryz.func33, Tryz.ntmps33
  go_wp2_with fail
  refine hr.mono ?_; rintro e w1 ⟨rfl, hb1⟩
  have HB1 := Hf hb1
  clear hr hb1; go_wp2
  go_ret3
  exact ⟨rfl, HB1.out⟩
 ·have hc : Ns.rcode (ep, bif decide (ep = 0) then [] else [UInt8.ofNat ar]) = 0 := by unfold Ns.rcode; rw [decide_eq_false he]; rfl
  rw [hc, decide_eq_false he] at hr
  have hr' : Calls Tryz.prog 83 #[ptr db] w fun e w' => e = .returned (.tuple #[.string (ofL [UInt8.ofNat ar]), .int .i64 ep, .int .i64 0]) ∧ Below w.heap.size w w' := hr
  have s0 := fun W => stateText_any 0 (by omega) W
  have s1 := fun W => stateText_any 1 (by omega) W
  clear hr hc h0
  go_enter Tryz.func33, Tryz.ntmps33
  go_wp2_with fail
  refine hr'.mono ?_; rintro e w1 ⟨rfl, hb1⟩
  have HB1 := Hf hb1
  clear hr' hb1; go_wp2
  go_loopw [20] (fun i wr => ∃ k : Nat, k ≤ ar ∧ i = .int .i64 k ∧ Below w.heap.size w wr) (fun i _ => 2 - (intOf i).toNat)
  case atStart => exact ⟨0, by omega, rfl, HB1.out⟩
  case round =>
   obtain ⟨k, hk, rfl, hb⟩ := hrel
   have HB := Hf hb
   clear hb HB1
   rcases (show k = 0 ∧ ar = 0 ∨ k = 0 ∧ ar = 1 ∨ k = 1 ∧ ar = 1 by omega) with ⟨rfl, rfl⟩ | ⟨rfl, rfl⟩ | ⟨rfl, rfl⟩
   ·have heq : ((ofL [UInt8.ofNat 0]).toList == (ofL [UInt8.ofNat 0]).toList) = true := by simp
    generalize ofL [UInt8.ofNat 0] = s at *
    go_wp2_with fail
    refine (s0 _).mono ?_; rintro e w2 ⟨rfl, hb2⟩
    have HB2 := Hf (Bu HB.out hb2 Lr)
    clear hb2 s0 s1; go_wp2
    go_ret3
    exact ⟨rfl, HB2.out⟩
   ·have heq : ((ofL [UInt8.ofNat 1]).toList == (ofL [UInt8.ofNat 0]).toList) = false := str_ne (a := UInt8.ofNat 1) (b := UInt8.ofNat 0) (by decide)
    generalize ofL [UInt8.ofNat 0] = s at *
    generalize ofL [UInt8.ofNat 1] = t at *
    go_wp2_with fail
    refine (s0 _).mono ?_; rintro e w2 ⟨rfl, hb2⟩
    have HB2 := Hf (Bu HB.out hb2 Lr)
    clear hb2; go_wp2
    go_roundw
    case rel => exact ⟨1, by omega, by rfl, HB2.out⟩
    case measure => simp [intOf]
   ·have heq : ((ofL [UInt8.ofNat 1]).toList == (ofL [UInt8.ofNat 1]).toList) = true := by simp
    generalize ofL [UInt8.ofNat 1] = s at *
    go_wp2_with fail
    refine (s1 _).mono ?_; rintro e w2 ⟨rfl, hb2⟩
    have HB2 := Hf (Bu HB.out hb2 Lr)
    clear hb2 s0 s1; go_wp2
    go_ret3
    exact ⟨rfl, HB2.out⟩
end Go.Proofs.YtlnedgjikkhplaaGreat.Du
namespace Go.Proofs.YtlnedgjikkhplaaGreat.Du
open Go.RowKit
open Na (Fr AS XL vl bV vV Hf bel1 bel2 Bu Br row2 row4 blk OwnL AtL)
open Na.M (E V S S0)
open Ns.M (ofL)
theorem rtext_ar {n : Nat} {P : List Ns.M.Pl} (h8 : 10 ≤ n) (k : Nat) (hk : k ≤ 1) : Ns.M.refused n false ((8 + k * hf n : Nat) : Int) ((hf n : Nat) : Int) = 0 ∧ Ns.M.rtext n false P ((8 + k * hf n : Nat) : Int) ((hf n : Nat) : Int) = ofL (arT n P k) := by
 have h2 := hf_le n (by omega)
 have h3 := mul_le1 (h := hf n) hk
 have h1 : 1 ≤ hf n := by unfold hf; omega
 have hr : Ns.M.refused n false ((8 + k * hf n : Nat) : Int) ((hf n : Nat) : Int) = 0 := by
  unfold Ns.M.refused; rw [decide_eq_false (show ¬ (((8 + k * hf n : Nat) : Int) < 0) by omega), decide_eq_false (show ¬ (((hf n : Nat) : Int) < 1) by omega), decide_eq_false (show ¬ (((8 + k * hf n : Nat) : Int) > (n : Int) - ((hf n : Nat) : Int)) by omega)]
  rfl
 refine ⟨hr, ?_⟩
 unfold Ns.M.rtext; rw [hr, decide_eq_true rfl, Int.toNat_natCast, Int.toNat_natCast]
 rfl
theorem mk_step (l : List R) (j : Nat) (hj : j < l.length) : mk (l.take (j + 1)) = redo (mk (l.take j)) l[j] := by
 rw [List.take_succ_eq_append_getElem hj, mk_snoc]
section
variable {w0 w : World} {FD : Nat → Prop} {db n : Nat} {P : List Ns.M.Pl} {x : X} {rs : List R}
def OpO (w0 w : World) (FD : Nat → Prop) (db n : Nat) (P : List Ns.M.Pl) (x : X) (e : Ending) (w' : World) : Prop :=
 ∃ b ab FA, e = .returned (.tuple #[ptr b, .int .i64 0]) ∧ DU w0 w' FA FD b ab db n P { x with cut := false } ∧ Below w.heap.size w w' ∧ w.heap.size ≤ b ∧ ∀ k, FA k → w.heap.size ≤ k
theorem open_any (h : Ns.DS w0 w db FD n P false) (hg : Gd n P x rs) : Calls Tryz.prog 10 #[ptr db] w (OpO w0 w FD db n P x) := by
 have hn := hg.n10
 have hso := stateOf_any h (by omega) hg.ar hg.st hg.a0
 obtain ⟨v1, v2, hrow⟩ := h.row
 have hsec := sectors_any db n v1 v2 _ w hrow
 have hd10 : decide ((n : Int) < 10) = false := decide_eq_false (by omega)
 have HH := Hf h
 have HG := Hf hg
 clear h hg hrow
 go_enter Tryz.func10, Tryz.ntmps10
 go_wp2_with fail
 refine hsec.mono ?_; rintro e w1 ⟨rfl, rfl⟩
 clear hsec
 go_wp2_with fail
 refine hso.mono ?_; rintro e w2 ⟨rfl, hb2⟩
 have hna := Na.newA_any w0 w2 ((HH.out.keep hb2).bel)
 have HB2 := Hf hb2
 clear hso hb2
 go_wp2_with fail
 refine hna.mono ?_; rintro e w3 ⟨ab, FA, rfl, ha3, hb3, hnew⟩
 obtain ⟨b, hbe⟩ := Nq (w3.heap.size)
 obtain ⟨W, HW⟩ := Nh (w3.alloc (.cells #[ptr ab, ptr db, .int .i64 x.ar, .int .i64 x.ep, .int .i64 0, .int .i64 0, .bool false] 90))
 have hbW : Below w3.heap.size w3 W := by rw [← HW.out]; exact bel1 w3 _
 have hrW : W.heap[b]? = some (.cells #[ptr ab, ptr db, .int .i64 x.ar, .int .i64 x.ep, .int .i64 0, .int .i64 0, .bool false] 90 (0, 0)) := by rw [← HW.out, ← hbe]; exact heap_alloc_last w3 _
 have hbw : Below w1.heap.size w1 w3 := Bu HB2.out hb3 Lr
 have hbwW : Below w1.heap.size w1 W := Bu hbw hbW Lr
 have hdu : DU w0 W FA FD b ab db n P ⟨x.ar, x.ep, 0, 0, false, S0⟩ := by
  refine ⟨hrW, ha3.keep hbW, HH.out.keep hbwW, fun k hk hk2 => ?_, fun hk => ?_, fun hk => ?_, ?_⟩
  ·have h1 := hnew k hk
   have h2 := (HH.out.own k hk2).2
   have h3 := HB2.out.size
   omega
  ·have := (ha3.mine b hk).2; omega
  ·have h2 := (HH.out.own b hk).2
   have := hbw.size
   omega
  ·have := HH.out.bel.size; have := hbw.size; omega
 have hnewW : ∀ k, FA k → w1.heap.size ≤ k := fun k hk => by have := hnew k hk; have := HB2.out.size; omega
 have HNW := Hf hnewW
 have HDU := Hf hdu
 have HBW := Hf hbwW
 have hbge : w1.heap.size ≤ b := by have := hbw.size; omega
 have hfo := hdu.firstOf (by omega) x.ar HG.out.ar
 have hwi := hdu.width (by omega)
 have hrd := hdu.d.read ((8 + x.ar * hf n : Nat) : Int) ((hf n : Nat) : Int) (by have := HG.out.nle; unfold hf; omega)
 obtain ⟨r1, r2⟩ := rtext_ar (P := P) hn x.ar HG.out.ar
 rw [r1, r2] at hrd; clear hna ha3 hb3 hnew hbW hrW hbw hbwW hdu hnewW r1 r2 HB2
 go_upto_region 7 with fail
 rw [HW.out]
 try rw [hbe]
 clear HW
 go_wp2_with fail
 refine hfo.mono ?_; rintro e v1 ⟨rfl, rfl⟩
 clear hfo
 go_wp2_with fail
 refine hwi.mono ?_; rintro e v2 ⟨rfl, rfl⟩
 clear hwi
 go_wp2_with fail
 refine hrd.mono ?_; rintro e w4 ⟨rfl, hb4, _⟩
 have hro := recordsOf_any x.ep rs ((hf n - x.us) * 64) w4 (by have := HG.out.ep; omega) HG.out.wf (by have := HG.out.nn; have := HG.out.cn; omega) (by omega) (by
  rw [← HG.out.us]
  have := HG.out.le
  have := HG.out.nle
  unfold hf at *
  omega)
 rw [← HG.out.tx] at hro
 have HDU4 := Hf (HDU.out.keep hb4)
 have HBW4 := Hf (Bu HBW.out hb4 Lr)
 clear hrd hb4 HDU HBW
 generalize arT n P x.ar = AT at *
 go_wp2_with fail
 refine hro.mono ?_; rintro e w5 ⟨ad, c, rfl, hx5, hbk5, hb5⟩
 have hdu5 := HDU4.out.keep hb5
 have HBW5 := Hf (Bu HBW4.out hb5 Lr)
 have hap5 : ∀ k, blk ad k → ¬ fpd b FA FD k ∧ k < w5.heap.size := fun k hk => ⟨fun e => by
  have h1 := (HDU4.out.mine k e).2
  have h2 := (hbk5 k hk).1
  omega, (hbk5 k hk).2⟩
 have HST : Hid (∃ G, DU w0 w5 G FD b ab db n P ⟨x.ar, x.ep, 0, 0, false, mk (rs.take 0)⟩ ∧ Below w1.heap.size w1 w5 ∧ AtL rl w5 ad rs ∧ (∀ k, blk ad k → ¬ fpd b G FD k ∧ k < w5.heap.size) ∧ ∀ k, G k → w1.heap.size ≤ k) := ⟨FA, hdu5, HBW5.out, hx5.at', hap5, HNW.out⟩
 have hrl : rs.length = x.n := HG.out.cn.symm
 have hnn := HG.out.nn
 clear hro hx5 hbk5 hb5 hdu5 hap5 HDU4 HBW4 HBW5 HNW; go_wp2
 go_loopw [56] (fun i wr => ∃ j : Nat, j ≤ rs.length ∧ i = .int .i64 j ∧ ∃ G, DU w0 wr G FD b ab db n P ⟨x.ar, x.ep, 0, 0, false, mk (rs.take j)⟩ ∧ Below w1.heap.size w1 wr ∧ AtL rl wr ad rs ∧ (∀ k, blk ad k → ¬ fpd b G FD k ∧ k < wr.heap.size) ∧ ∀ k, G k → w1.heap.size ≤ k) (fun i _ => rs.length - (intOf i).toNat)
 case atStart => exact ⟨0, Nat.zero_le _, rfl, HST.out⟩
 case round =>
  obtain ⟨j, hj, rfl, G, hdu, hb, hat, hap, hnw⟩ := hrel
  clear HST
  by_cases hlt : j < rs.length
  ·obtain ⟨g, off, rfl, c0, c1, c2, c3, c4, c5⟩ := getR hat j hlt
   obtain ⟨W3, HW3⟩ := Nh (wr.alloc (.cells #[.int .i64 (rk rs[j]), .int .i64 (rsl rs[j]), .int .i64 (ri rs[j]), .int .i64 (rt rs[j]), .string (rvv rs[j]), .int .i64 (ru rs[j])] 97))
   have hb3 : Below wr.heap.size wr W3 := by rw [← HW3.out]; exact bel1 wr _
   have hr3 : W3.heap[wr.heap.size]? = some (.cells #[.int .i64 (rk rs[j]), .int .i64 (rsl rs[j]), .int .i64 (ri rs[j]), .int .i64 (rt rs[j]), .string (rvv rs[j]), .int .i64 (ru rs[j])] 97 (0, 0)) := by rw [← HW3.out]; exact heap_alloc_last wr _
   have hre := (hdu.keep hb3).redo rs[j]
   rw [rV, rcs_six] at hre
   obtain ⟨⟨d0, d1, d2, d3, d4, d5⟩, _⟩ := row6 hr3
   have HFI : Hid (∀ w' G', DU w0 w' G' FD b ab db n P ⟨x.ar, x.ep, 0, 0, false, redo (mk (rs.take j)) rs[j]⟩ → Fr W3 G w' G' → ∃ G, DU w0 w' G FD b ab db n P ⟨x.ar, x.ep, 0, 0, false, mk (rs.take (j + 1))⟩ ∧ Below w1.heap.size w1 w' ∧ AtL rl w' (some ⟨g, off, none⟩) rs ∧ (∀ k, blk (some ⟨g, off, none⟩) k → ¬ fpd b G FD k ∧ k < w'.heap.size) ∧ ∀ k, G k → w1.heap.size ≤ k) := by
    intro w' G' hd hF
    refine ⟨G', by rw [mk_step rs j hlt]; exact hd, ?_, ?_, ?_, ?_⟩
    ·exact (Bu hb hb3 Lr).trans (hF.below hnw (by have := hb.size; have := hb3.size; omega))
    ·exact (hat.keep hb3).keepBut fun k hk hk2 => hF.block k hk (fun e => (hap k hk2).1 (.inr (.inl e)))
    ·intro k hk
     have h1 := hap k hk
     refine ⟨fun e => ?_, by have := hb3.size; have := hF.size; omega⟩
     rcases e with rfl | e | e
     ·exact h1.1 (.inl rfl)
     ·rcases hF.n k e with h' | h'
      ·exact h1.1 (.inr (.inl h'))
      ·have := hb3.size; omega
     ·exact h1.1 (.inr (.inr e))
    ·intro k hk
     rcases hF.n k hk with h' | h'
     ·exact hnw k h'
     ·have := hb.size; have := hb3.size; omega
   clear hdu hb hat hap hnw hr3 hb3
   generalize rk rs[j] = z0 at *
   generalize rsl rs[j] = z1 at *
   generalize ri rs[j] = z2 at *
   generalize rt rs[j] = z3 at *
   generalize rvv rs[j] = z4 at *
   generalize ru rs[j] = z5 at *
   go_upto_region 14 with fail
   rw [HW3.out]; clear HW3 c0 c1 c2 c3 c4 c5
   go_wp2_with fail
   refine hre.mono ?_; rintro e w6 ⟨G', rfl, hd6, hf6⟩
   have HQ := Hf (HFI.out _ _ hd6 hf6)
   clear hre HFI hd6 hf6 d0 d1 d2 d3 d4 d5; go_wp2
   go_roundw
   case rel => exact ⟨j + 1, by omega, by simp, HQ.out⟩
   case measure => simp [intOf]; omega
  ·obtain rfl : j = rs.length := by omega
   rw [List.take_length, HG.out.mk'] at hdu
   obtain ⟨⟨k0, k1, k2, k3, k4, k5, k6⟩, kf⟩ := row7 hdu.row
   have f4 := kf 4
   have f5 := kf 5
   have HQ : Hid (OpO w0 w1 FD db n P x (.returned (.tuple #[ptr b, .int .i64 0])) ((wr.setCell ⟨b, 4, none⟩ (.int .i64 x.n)).setCell ⟨b, 5, none⟩ (.int .i64 (secs x.ep 0 rs : Nat)))) := by
    rw [← HG.out.us]
    have hc := hdu.chR (x' := { x with cut := false }) (w' := (wr.setCell ⟨b, 4, none⟩ (.int .i64 x.n)).setCell ⟨b, 5, none⟩ (.int .i64 x.us)) (heap_setCell_same _ b 5 _ _ _ (heap_setCell_same wr b 4 _ _ _ hdu.row)) rfl (fr_cell (fr_cell (Fr.refl _ _) 4 _) 5 _)
    exact ⟨b, ab, G, rfl, hc.1, (hb.setCell (p := ⟨b, 4, none⟩) hbge _).setCell (p := ⟨b, 5, none⟩) hbge _, hbge, hnw⟩
   clear hdu hb hat hap hnw kf; rw [hrl]; go_wp2
   go_ret2
   exact HQ.out
end
end Go.Proofs.YtlnedgjikkhplaaGreat.Du
namespace Go.Proofs.YtlnedgjikkhplaaGreat.Du
open Na.M (E V S S0)
open Ns (fl)
open Ns.M (ofL Pl last lse flush wr st pc)
theorem fl_zeros : ∀ k, fl (List.replicate k Ns.zr) = List.replicate (k * 64) 0
 | 0 => rfl
 | k + 1 => by
  rw [List.replicate_succ, show fl (Ns.zr :: List.replicate k Ns.zr) = Ns.zr.data.toList ++ fl (List.replicate k Ns.zr) from rfl, fl_zeros k, show (k + 1) * 64 = 64 + k * 64 by omega, ← List.replicate_append_replicate]
  rfl
def X0 : X := ⟨0, 0, 0, 0, false, S0⟩
theorem Gd.new (n : Nat) (h1 : 10 ≤ n) (h2 : n ≤ 4096) : Gd n (Ns.new n) X0 [] := by
 have hm : (Ns.new n).map last = List.replicate n Ns.zr := by
  unfold Ns.new; rw [List.map_replicate]
  rfl
 refine ⟨h1, h2, Ns.new_len n, Ns.new_ok n, Nat.zero_le _, ?_, fun _ => rfl, by simp, rfl, rfl, Nat.zero_le _, rfl, ?_, fun i p _ hp => Ns.new_lse n p (List.mem_of_getElem? hp), fun _ => Ns.new_lse n⟩
 ·have : (Ns.new n).take 8 = Ns.new 8 := by
   unfold Ns.new; rw [List.take_replicate, Nat.min_eq_left (by omega)]
  rw [this, Ns.rd_new]
  rfl
 ·show arT n (Ns.new n) 0 = recs 0 0 [] ++ _
  unfold arT; rw [hm, List.drop_replicate, List.take_replicate, Nat.min_eq_left (by unfold hf; omega), fl_zeros]
  show _ = [] ++ List.replicate ((hf n - 0) * 64) 0
  rw [List.nil_append, Nat.sub_zero]
theorem few_wf {a : S} (h : Na.M.Ok a) (hv : Vd a) : ∀ r ∈ few a, Wf r := by
 have hb0 := h.b0
 have hb1 := h.b1
 have hvl : ∀ b : E, Na.M.vld b = true → I64 b.i ∧ I64 b.t := fun b hb => by
  unfold Na.M.vld at hb
  simp at hb
  unfold I64
  omega
 intro r hr; unfold few at hr
 rcases List.mem_append.1 hr with hr | hr
 ·split at hr
  ·simp at hr
  ·rw [List.mem_singleton.1 hr]
   show I64 a.base
   unfold I64
   omega
 ·rcases List.mem_append.1 hr with hr | hr
  ·obtain ⟨v, hv', rfl⟩ := List.mem_map.1 hr
   have hm := (byB_perm a.l).mem_iff.1 hv'
   have h1 := h.lo v hm
   have h2 := h.hi v hm
   obtain ⟨h3, h4⟩ := hvl v.b (hv.l v hm)
   exact ⟨⟨by omega, by omega⟩, h3, h4, h.vs v hm⟩
  ·split at hr
   ·simp at hr
   ·rw [List.mem_singleton.1 hr]
    exact hvl a.p hv.p
theorem few_len {a : S} (h : Na.M.Ok a) : (few a).length ≤ 1026 := by
 have hl := h.len
 have hp := (byB_perm a.l).length_eq
 unfold few; rw [List.length_append, List.length_append, List.length_map, hp]
 split <;> split <;> simp <;> omega
def ctx (n : Nat) (x : X) : List UInt8 := recs (x.ep + 1) 0 (few x.a) ++ List.replicate ((hf n - secs (x.ep + 1) 0 (few x.a)) * 64) 0
def w1P (n : Nat) (P : List Pl) (x : X) : List Pl := wr P (8 + (1 - x.ar) * hf n) (ofL (ctx n x)) (hf n)
def cmpX (x : X) : X := ⟨1 - x.ar, x.ep + 1, (few x.a).length, secs (x.ep + 1) 0 (few x.a), false, x.a⟩
def cutX (x : X) : X := { x with cut := true }
section
variable {n : Nat} {P : List Pl} {x : X} {rs : List R}
theorem ctx_len (hs : secs (x.ep + 1) 0 (few x.a) ≤ hf n) : (ctx n x).length = hf n * 64 := by
 unfold ctx; rw [List.length_append, recs_len, List.length_replicate]
 omega
theorem Gd.cut0 (h : Gd n P x rs) : Gd n P (cutX x) rs :=
 ⟨h.n10, h.nle, h.len, h.ok, h.ar, h.st, h.a0, h.wf, h.cn, h.us, h.le, h.mk', h.tx, h.nl, fun h => by cases h⟩
theorem rdP_flush (P : List Pl) : Ns.rdP (flush P) = Ns.rdP P := by
 unfold Ns.rdP Ns.both; rw [Ns.M.flush_last]
theorem Gd.flu (h : Gd n P x rs) : Gd n (flush P) x rs := by
 refine ⟨h.n10, h.nle, by rw [Ns.M.flush_len, h.len], Ns.M.flush_ok h.ok, h.ar, ?_, h.a0, h.wf, h.cn, h.us, h.le, h.mk', by rw [arT_flush]; exact h.tx, fun i p _ hp => Ns.M.flush_lse _ p (List.mem_of_getElem? hp), fun _ => Ns.M.flush_lse P⟩
 rw [flush_take, rdP_flush]
 exact h.st
theorem w1_out (hx : x.ar ≤ 1) (h8 : 8 ≤ n) (i : Nat) (hi : i < 8 ∨ (8 + x.ar * hf n ≤ i ∧ i < 8 + x.ar * hf n + hf n)) : (w1P n P x)[i]? = P[i]? := by
 unfold w1P
 apply wr_getL
 rcases (show x.ar = 0 ∨ x.ar = 1 by omega) with e | e
 ·rw [e] at hi ⊢
  simp at hi ⊢
  omega
 ·rw [e] at hi ⊢
  simp at hi ⊢
  omega
theorem Gd.cut1 (h : Gd n P x rs) (hs : secs (x.ep + 1) 0 (few x.a) ≤ hf n) : Gd n (w1P n P x) (cutX x) rs := by
 have hn := h.n10
 have h2 := hf_le n (by omega)
 have h3 := mul_le1 (k := 1 - x.ar) (h := hf n) (by omega)
 have hl := h.len
 have hz : (ofL (ctx n x)).size = hf n * 64 := by rw [Ns.M.ofL_size, ctx_len hs]
 have ho := w1_out (P := P) h.ar (by omega : 8 ≤ n)
 refine ⟨h.n10, h.nle, by unfold w1P; rw [Ns.M.wr_len, h.len], wr_okL h.ok _ _ _ (by omega) (by omega), h.ar, ?_, h.a0, h.wf, h.cn, h.us, h.le, h.mk', ?_, fun i p hi hp => ?_, fun h => by cases h⟩
 ·rw [take_same 8 fun i hi => ho i (.inl hi)]
  exact h.st
 ·show arT n (w1P n P x) x.ar = _
  rw [arT_same x.ar fun i h1 h2 => ho i (.inr ⟨h1, h2⟩)]
  exact h.tx
 ·have hi' : i < 8 ∨ (8 + x.ar * hf n ≤ i ∧ i < 8 + x.ar * hf n + hf n) := hi
  rw [ho i hi'] at hp
  exact h.nl i p hi' hp
theorem Gd.done (h : Gd n P x rs) (hs : secs (x.ep + 1) 0 (few x.a) ≤ hf n) (he : x.ep < 2147483647) : Gd n (Ns.nxN (flush (w1P n P x)) [UInt8.ofNat (1 - x.ar)]) (cmpX x) (few x.a) := by
 have hc := (h.cut1 hs).flu
 have hn := h.n10
 have h2 := hf_le n (by omega)
 have h3 := mul_le1 (k := 1 - x.ar) (h := hf n) (by omega)
 have hl := h.len
 obtain ⟨ok, vd⟩ := h.aok
 have hz : (ofL (ctx n x)).size = hf n * 64 := by rw [Ns.M.ofL_size, ctx_len hs]
 obtain ⟨Q, hQ⟩ := Nq (flush (w1P n P x))
 have hst : (Ns.rdP (Q.take 8)).1 = x.ep := by
  have := hc.st
  rw [hQ] at this; rw [this]
  rfl
 have hQl : Q.length = n := by rw [← hQ]; exact hc.len
 have hQo : Ns.M.Ok Q := by rw [← hQ]; exact hc.ok
 have h8l : (Q.take 8).length = 8 := by rw [List.length_take, hQl]; omega
 have ht8 : (Ns.nxN Q [UInt8.ofNat (1 - x.ar)]).take 8 = Ns.nxt (Q.take 8) [UInt8.ofNat (1 - x.ar)] := by
  unfold Ns.nxN Ns.nxt; rw [flush_take, wr_take _ _ _ _ _ (by omega)]
 have hpk : (ofL (Ns.Sp.pk [UInt8.ofNat (1 - x.ar)] (x.ep + 1))).size = 256 := by rw [Ns.M.ofL_size, Ns.Sp.pk_len _ _ (by simp)]
 rw [hQ]
 refine ⟨h.n10, h.nle, by unfold Ns.nxN; rw [Ns.M.flush_len, Ns.M.wr_len, hQl], ?_, ?_, ?_, fun h => absurd h (Nat.succ_ne_zero _), few_wf ok vd, rfl, rfl, hs, mk_few ok vd, ?_, fun i p _ hp => Ns.M.flush_lse _ p (List.mem_of_getElem? hp), fun _ => Ns.M.flush_lse _⟩
 ·unfold Ns.nxN
  rw [hst]
  exact Ns.M.flush_ok (Ns.wr_ok hQo _ _ hpk (by omega))
 ·show 1 - x.ar ≤ 1
  omega
 ·rw [ht8, Ns.rd_nxt h8l (Ns.ok_take hQo 8) _ (by simp) (by omega), hst]
  rfl
 ·show arT n (Ns.nxN Q [UInt8.ofNat (1 - x.ar)]) (1 - x.ar) = ctx n x
  unfold Ns.nxN; rw [arT_flush, arT_same (P := Q) (1 - x.ar) fun i h1 h2 => Ns.wr_get Q _ _ i (by omega), ← hQ, arT_flush]
  unfold w1P
  have := arT_wr h.len h.ok (by omega) (1 - x.ar) 0 (hf n) (by omega) (ofL (ctx n x)) hz (by omega)
  rw [Nat.add_zero] at this; rw [this, Nat.zero_mul, List.take_zero, List.nil_append, Nat.zero_add, Ns.ofL_data]
  have hal : (arT n P (1 - x.ar)).length = hf n * 64 := by
   unfold arT; rw [fl_len (fun s hs => Ns.last_64 h.ok s (List.mem_of_mem_drop (List.mem_of_mem_take hs))), List.length_take, List.length_drop, List.length_map]
   congr 1
   omega
  rw [List.drop_of_length_le (by omega), List.append_nil]
end
end Go.Proofs.YtlnedgjikkhplaaGreat.Du
