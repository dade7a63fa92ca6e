/-
  What a record tells is done; the state of a device.
-/
import Derived.Test.YtlnedgjikkhplaaGreatGN31
import Derived.Test.YtlnedgjikkhplaaGreatGN32
namespace Go.Proofs.YtlnedgjikkhplaaGreat.Du
open Go.RowKit
set_option linter.unusedVariables false
set_option linter.unusedSimpArgs false
open Na (Fr AS XL vl bV vV Hid_of bel1 bel2 bel_up bel_row row2 row4 blk OwnL AtL)
open Na.M (E V S S0)

section
variable {w0 w w' : World} {FA FD FA' FD' : Nat → Prop} {b ab db n : Nat} {P P' : List Ns.M.Pl} {x x' : X} {a' : S}
theorem DU.bel (h : DU w0 w FA FD b ab db n P x) : Below w0.heap.size w0 w := h.a.bel
/-- The acceptor has changed. -/
theorem DU.chA (h : DU w0 w FA FD b ab db n P x) (ha : AS w0 w' FA' ab a') (hF : Fr w FA w' FA') : DU w0 w' FA' FD b ab db n P { x with a := a' } ∧ Fr w (fpd b FA FD) w' (fpd b FA' FD) := by
  have hlt := h.lt
  refine ⟨⟨(hF.block b hlt h.na).trans h.row, ha, h.d.keepBut (fun k hk hk2 => hF.block k hk (fun e => h.ap k e hk2)) ha.bel, fun k hk hk2 => ?_, fun hk => ?_, h.nd, h.lo⟩, ⟨hF.os, hF.tape, hF.output, hF.size, fun k hk hn => hF.block k hk (fun e => hn (.inr (.inl e))), fun k hk => ?_⟩⟩
  · rcases hF.n k hk with h' | h'
    · exact h.ap k h' hk2
    · have := (h.d.own k hk2).2; omega
  · rcases hF.n b hk with h' | h'
    · exact h.na h'
    · omega
  · rcases hk with rfl | hk | hk
    · exact .inl (.inl rfl)
    · rcases hF.n k hk with h' | h'
      · exact .inl (.inr (.inl h'))
      · exact .inr h'
    · exact .inl (.inr (.inr hk))
/-- The device has changed. -/
theorem DU.chD (h : DU w0 w FA FD b ab db n P x) (hd : Ns.DS w0 w' db FD' n P' false) (hF : Fr w FD w' FD') : DU w0 w' FA FD' b ab db n P' x ∧ Fr w (fpd b FA FD) w' (fpd b FA FD') := by
  have hlt := h.lt
  have hst := h.a.step hF (fun k hk hk2 => h.ap k hk hk2) (fun k hk => (h.d.own k hk).1)
  refine ⟨⟨(hF.block b hlt h.nd).trans h.row, hst.1, hd, hst.2, h.na, fun hk => ?_, h.lo⟩, ⟨hF.os, hF.tape, hF.output, hF.size, fun k hk hn => hF.block k hk (fun e => hn (.inr (.inr e))), fun k hk => ?_⟩⟩
  · rcases hF.n b hk with h' | h'
    · exact h.nd h'
    · omega
  · rcases hk with rfl | hk | hk
    · exact .inl (.inl rfl)
    · exact .inl (.inr (.inl hk))
    · rcases hF.n k hk with h' | h'
      · exact .inl (.inr (.inr h'))
      · exact .inr h'
/-- Its row has changed. -/
theorem DU.chR (h : DU w0 w FA FD b ab db n P x) (hr : w'.heap[b]? = some (.cells (xrow ab db x') 90 (0, 0))) (hx : x'.a = x.a) (hF : Fr w (· = b) w' (· = b)) : DU w0 w' FA FD b ab db n P x' ∧ Fr w (fpd b FA FD) w' (fpd b FA FD) := by
  have hst := h.a.step hF (fun k hk e => h.na (e ▸ hk)) (fun k hk => hk ▸ h.lo)
  refine ⟨⟨hr, by rw [hx]; exact hst.1, h.d.keepBut (fun k hk hk2 => hF.block k hk (fun e => h.nd (e ▸ hk2))) hst.1.bel, h.ap, h.na, h.nd, h.lo⟩, ⟨hF.os, hF.tape, hF.output, hF.size, fun k hk hn => hF.block k hk (fun e => hn (.inl e)), fun k hk => .inl hk⟩⟩
theorem fr_cell {w w' : World} {b : Nat} (h : Fr w (· = b) w' (· = b)) (j : Nat) (v : Value) : Fr w (· = b) (w'.setCell ⟨b, j, none⟩ v) (· = b) :=
  ⟨h.os, h.tape, h.output, by have := h.size; simp; omega, fun k hk hn => by rw [heap_setCell_other _ ⟨b, j, none⟩ k _ hn]; exact h.block k hk hn, fun k hk => .inl hk⟩
set_option maxRecDepth 100000 in
set_option maxHeartbeats 1000000 in
theorem DU.redo (h : DU w0 w FA FD b ab db n P x) (r : R) : Calls Tryz.prog 39 #[ptr b, rV r] w fun e w' => ∃ G, e = .returned (.tuple #[]) ∧ DU w0 w' G FD b ab db n P { x with a := Du.redo x.a r } ∧ Fr w FA w' G := by
  cases r using R.split with
  | pr b' =>
    obtain ⟨W, HW⟩ : ∃ W, Hid (w.alloc (.cells #[.int .i64 1, .int .i64 0, .int .i64 b'.i, .int .i64 b'.t, .string ⟨#[]⟩, .int .i64 0] 97) = W) := ⟨_, Hid_of rfl⟩
    have hb1 : Below w.heap.size w W := by rw [← HW.out]; exact bel1 w _
    have hr1 : W.heap[w.heap.size]? = some (.cells #[.int .i64 1, .int .i64 0, .int .i64 b'.i, .int .i64 b'.t, .string ⟨#[]⟩, .int .i64 0] 97 (0, 0)) := by rw [← HW.out]; exact heap_alloc_last w _
    obtain ⟨⟨c0, c1, c2, c3, c4, c5⟩, _⟩ := row6 hr1
    have hd := h.keep hb1
    have HD : Hid (DU w0 W.drew FA FD b ab db n P x) := hd.keep (Below.refl _ _).drew
    have HSI : Hid (W.drew.cell? ⟨b, 0, none⟩ = some (ptr ab) ∧ W.drew.cell? ⟨w.heap.size, 0, none⟩ = some (.int .i64 1) ∧ W.drew.cell? ⟨w.heap.size, 1, none⟩ = some (.int .i64 0) ∧ W.drew.cell? ⟨w.heap.size, 2, none⟩ = some (.int .i64 b'.i) ∧ W.drew.cell? ⟨w.heap.size, 3, none⟩ = some (.int .i64 b'.t) ∧ W.drew.cell? ⟨w.heap.size, 4, none⟩ = some (.string ⟨#[]⟩) ∧ W.drew.cell? ⟨w.heap.size, 5, none⟩ = some (.int .i64 0)) := ⟨(row7 hd.row).1.1, c0, c1, c2, c3, c4, c5⟩
    have hFAb : ¬ FA w.heap.size := fun e => by have := (h.a.mine _ e).2; omega
    have HKS : Hid (∀ w' G, Fr W.drew FA w' G → w'.cell? ⟨b, 0, none⟩ = some (ptr ab) ∧ w'.cell? ⟨w.heap.size, 0, none⟩ = some (.int .i64 1) ∧ w'.cell? ⟨w.heap.size, 1, none⟩ = some (.int .i64 0) ∧ w'.cell? ⟨w.heap.size, 2, none⟩ = some (.int .i64 b'.i) ∧ w'.cell? ⟨w.heap.size, 3, none⟩ = some (.int .i64 b'.t) ∧ w'.cell? ⟨w.heap.size, 4, none⟩ = some (.string ⟨#[]⟩) ∧ w'.cell? ⟨w.heap.size, 5, none⟩ = some (.int .i64 0)) := fun w' G hF =>
      ⟨(row7 ((hF.block b hd.lt hd.na).trans hd.row)).1.1, (row6 ((hF.block w.heap.size (Array.getElem?_eq_some_iff.1 hr1).1 hFAb).trans hr1)).1⟩
    have HFI : Hid (∀ w' G a', AS w0 w' G ab a' → Fr W.drew FA w' G → DU w0 w' G FD b ab db n P { x with a := a' } ∧ Fr w FA w' G) := fun w' G a' ha hF => by
      have h1 := HD.out.chA ha hF
      exact ⟨h1.1, (Fr.ofBelow (bel_up hb1 (Below.refl _ _).drew (Nat.le_refl _))).trans hF⟩
    have HBS := Hid_of HD.out.base
    have HCL := Hid_of (HD.out.a.promise b' x.a.base)
    clear h hd hb1 hr1 hFAb HD
    go_enter Tryz.func39, Tryz.ntmps39
    go_upto_region 1 with fail
    rw [HW.out]
    clear HW
    go_upto_region 3 with fail
    clear c0 c1 c2 c3 c4 c5
    refine wp_region_held_drew (S := (fun wq => wq.cell? ⟨b, 0, none⟩ = some (ptr ab) ∧ wq.cell? ⟨w.heap.size, 0, none⟩ = some (.int .i64 1) ∧ wq.cell? ⟨w.heap.size, 1, none⟩ = some (.int .i64 0) ∧ wq.cell? ⟨w.heap.size, 2, none⟩ = some (.int .i64 b'.i) ∧ wq.cell? ⟨w.heap.size, 3, none⟩ = some (.int .i64 b'.t) ∧ wq.cell? ⟨w.heap.size, 4, none⟩ = some (.string ⟨#[]⟩) ∧ wq.cell? ⟨w.heap.size, 5, none⟩ = some (.int .i64 0))) (by kernel_rfl) HSI.out (fun hHeld => ?_)
    refine wpAnyH_take (i := 0) (oi := ?p0a) (v := ?v0a) ?o0a (by kernel_rfl) (by kernel_rfl) (by kernel_rfl) ?q0a ?y0a hHeld ?r0a
    case o0a => simp only [List.getElem?_toArray, List.getElem?_cons_zero]; rfl
    case q0a => exact fun _ _ _ h => h
    case y0a => (refine Or.inl ⟨rfl, ?_⟩; intro wq hq; obtain ⟨z0, y0, y1, y2, y3, y4, y5⟩ := hq; go_simp; try with_reducible rfl)
    simp only [Act.put, List.setIfInBounds_toArray, List.set_cons_zero, List.set_cons_succ]
    refine wpAnyH_take (i := 1) (oi := ?p1a) (v := ?v1a) ?o1a (by kernel_rfl) (by kernel_rfl) (by kernel_rfl) ?q1a ?y1a hHeld ?r1a
    case o1a => simp only [List.getElem?_toArray, List.getElem?_cons_succ, List.getElem?_cons_zero]; rfl
    case q1a => exact fun _ _ _ h => h
    case y1a => (refine Or.inl ⟨rfl, ?_⟩; intro wq hq; obtain ⟨z0, y0, y1, y2, y3, y4, y5⟩ := hq; go_simp; try with_reducible rfl)
    simp only [Act.put, List.setIfInBounds_toArray, List.set_cons_zero, List.set_cons_succ]
    refine wpAnyH_take (i := 2) (oi := ?p2a) (v := ?v2a) ?o2a (by kernel_rfl) (by kernel_rfl) (by kernel_rfl) ?q2a ?y2a hHeld ?r2a
    case o2a => simp only [List.getElem?_toArray, List.getElem?_cons_succ, List.getElem?_cons_zero]; rfl
    case q2a => exact fun _ _ _ h => h
    case y2a => (refine Or.inl ⟨rfl, ?_⟩; intro wq hq; obtain ⟨z0, y0, y1, y2, y3, y4, y5⟩ := hq; go_simp; try with_reducible rfl)
    simp only [Act.put, List.setIfInBounds_toArray, List.set_cons_zero, List.set_cons_succ]
    refine wpAnyH_take (i := 3) (oi := ?p3a) (v := ?v3a) ?o3a (by kernel_rfl) (by kernel_rfl) (by kernel_rfl) ?q3a ?y3a hHeld ?r3a
    case o3a => simp only [List.getElem?_toArray, List.getElem?_cons_succ, List.getElem?_cons_zero]; rfl
    case q3a => exact fun _ _ _ h => h
    case y3a => (refine Or.inl ⟨rfl, ?_⟩; intro wq hq; obtain ⟨z0, y0, y1, y2, y3, y4, y5⟩ := hq; go_simp; try with_reducible rfl)
    simp only [Act.put, List.setIfInBounds_toArray, List.set_cons_zero, List.set_cons_succ]
    refine wpAnyH_take (i := 4) (oi := ?p4a) (v := ?v4a) ?o4a (by kernel_rfl) (by kernel_rfl) (by kernel_rfl) ?q4a ?y4a hHeld ?r4a
    case o4a => simp only [List.getElem?_toArray, List.getElem?_cons_succ, List.getElem?_cons_zero]; rfl
    case q4a => exact fun _ _ _ h => h
    case y4a => (refine Or.inl ⟨rfl, ?_⟩; intro wq hq; obtain ⟨z0, y0, y1, y2, y3, y4, y5⟩ := hq; go_simp; try with_reducible rfl)
    simp only [Act.put, List.setIfInBounds_toArray, List.set_cons_zero, List.set_cons_succ]
    refine wpAnyH_take (i := 5) (oi := ?p5a) (v := ?v5a) ?o5a (by kernel_rfl) (by kernel_rfl) (by kernel_rfl) ?q5a ?y5a hHeld ?r5a
    case o5a => simp only [List.getElem?_toArray, List.getElem?_cons_succ, List.getElem?_cons_zero]; rfl
    case q5a => exact fun _ _ _ h => h
    case y5a => (refine Or.inl ⟨rfl, ?_⟩; intro wq hq; obtain ⟨z0, y0, y1, y2, y3, y4, y5⟩ := hq; go_simp; try with_reducible rfl)
    simp only [Act.put, List.setIfInBounds_toArray, List.set_cons_zero, List.set_cons_succ]
    refine wpAnyH_take (i := 6) (oi := ?p6a) (v := ?v6a) ?o6a (by kernel_rfl) (by kernel_rfl) (by kernel_rfl) ?q6a ?y6a hHeld ?r6a
    case o6a => simp only [List.getElem?_toArray, List.getElem?_cons_succ, List.getElem?_cons_zero]; rfl
    case q6a => exact fun _ _ _ h => h
    case y6a => (refine Or.inl ⟨rfl, ?_⟩; intro wq hq; obtain ⟨z0, y0, y1, y2, y3, y4, y5⟩ := hq; go_simp; try with_reducible rfl)
    simp only [Act.put, List.setIfInBounds_toArray, List.set_cons_zero, List.set_cons_succ]
    refine wpAnyH_take (i := 7) (oi := ?p7a) (v := ?v7a) ?o7a (by kernel_rfl) (by kernel_rfl) (by kernel_rfl) ?q7a ?y7a hHeld ?r7a
    case o7a => simp only [List.getElem?_toArray, List.getElem?_cons_succ, List.getElem?_cons_zero]; rfl
    case q7a => exact fun _ _ _ h => h
    case y7a => (refine Or.inl ⟨rfl, ?_⟩; intro wq hq; obtain ⟨z0, y0, y1, y2, y3, y4, y5⟩ := hq; go_simp; try with_reducible rfl)
    simp only [Act.put, List.setIfInBounds_toArray, List.set_cons_zero, List.set_cons_succ]
    refine wpAnyH_ready (rs := [8]) (by kernel_rfl) (by simp) ?_
    refine AllReadyH.cons (o := ?p8a) ?o8a ?s8a AllReadyH.nil
    case o8a => simp only [List.getElem?_toArray, List.getElem?_cons_succ, List.getElem?_cons_zero]; rfl
    intro K hK
    go_simp
    refine HBS.out.mono ?_
    rintro e v8 ⟨rfl, rfl⟩
    refine hK.out _ _ hHeld (fun hHeld => ?_)
    clear hK K
    refine wpAnyH_ready (rs := [9]) (by kernel_rfl) (by simp) ?_
    refine AllReadyH.cons (o := ?p9a) ?o9a ?s9a AllReadyH.nil
    case o9a => simp only [List.getElem?_toArray, List.getElem?_cons_succ, List.getElem?_cons_zero]; rfl
    intro K hK
    go_simp
    refine HCL.out.mono ?_
    rintro e v9 ⟨_, _, rfl, _, _, has, hfr⟩
    have HQ := Hid_of (HFI.out _ _ _ has hfr)
    have hS := HKS.out _ _ hfr
    clear has hfr
    refine hK.out _ _ hS (fun hHeld => ?_)
    clear hK K
    refine wpAnyH_done (by kernel_rfl) ?_ _
    go_wp2
    go_end0
    exact ⟨_, rfl, HQ.out⟩
  | vo v =>
    obtain ⟨W, HW⟩ : ∃ W, Hid (w.alloc (.cells #[.int .i64 2, .int .i64 v.s, .int .i64 v.b.i, .int .i64 v.b.t, .string v.v, .int .i64 0] 97) = W) := ⟨_, Hid_of rfl⟩
    have hb1 : Below w.heap.size w W := by rw [← HW.out]; exact bel1 w _
    have hr1 : W.heap[w.heap.size]? = some (.cells #[.int .i64 2, .int .i64 v.s, .int .i64 v.b.i, .int .i64 v.b.t, .string v.v, .int .i64 0] 97 (0, 0)) := by rw [← HW.out]; exact heap_alloc_last w _
    obtain ⟨⟨c0, c1, c2, c3, c4, c5⟩, _⟩ := row6 hr1
    have hd := h.keep hb1
    have HD : Hid (DU w0 W.drew FA FD b ab db n P x) := hd.keep (Below.refl _ _).drew
    have HSI : Hid (W.drew.cell? ⟨b, 0, none⟩ = some (ptr ab) ∧ W.drew.cell? ⟨w.heap.size, 0, none⟩ = some (.int .i64 2) ∧ W.drew.cell? ⟨w.heap.size, 1, none⟩ = some (.int .i64 v.s) ∧ W.drew.cell? ⟨w.heap.size, 2, none⟩ = some (.int .i64 v.b.i) ∧ W.drew.cell? ⟨w.heap.size, 3, none⟩ = some (.int .i64 v.b.t) ∧ W.drew.cell? ⟨w.heap.size, 4, none⟩ = some (.string v.v) ∧ W.drew.cell? ⟨w.heap.size, 5, none⟩ = some (.int .i64 0)) := ⟨(row7 hd.row).1.1, c0, c1, c2, c3, c4, c5⟩
    have hFAb : ¬ FA w.heap.size := fun e => by have := (h.a.mine _ e).2; omega
    have HKS : Hid (∀ w' G, Fr W.drew FA w' G → w'.cell? ⟨b, 0, none⟩ = some (ptr ab) ∧ w'.cell? ⟨w.heap.size, 0, none⟩ = some (.int .i64 2) ∧ w'.cell? ⟨w.heap.size, 1, none⟩ = some (.int .i64 v.s) ∧ w'.cell? ⟨w.heap.size, 2, none⟩ = some (.int .i64 v.b.i) ∧ w'.cell? ⟨w.heap.size, 3, none⟩ = some (.int .i64 v.b.t) ∧ w'.cell? ⟨w.heap.size, 4, none⟩ = some (.string v.v) ∧ w'.cell? ⟨w.heap.size, 5, none⟩ = some (.int .i64 0)) := fun w' G hF =>
      ⟨(row7 ((hF.block b hd.lt hd.na).trans hd.row)).1.1, (row6 ((hF.block w.heap.size (Array.getElem?_eq_some_iff.1 hr1).1 hFAb).trans hr1)).1⟩
    have HFI : Hid (∀ w' G a', AS w0 w' G ab a' → Fr W.drew FA w' G → DU w0 w' G FD b ab db n P { x with a := a' } ∧ Fr w FA w' G) := fun w' G a' ha hF => by
      have h1 := HD.out.chA ha hF
      exact ⟨h1.1, (Fr.ofBelow (bel_up hb1 (Below.refl _ _).drew (Nat.le_refl _))).trans hF⟩
    have HBS := Hid_of HD.out.base
    have HCL := Hid_of (HD.out.a.accept v)
    clear h hd hb1 hr1 hFAb HD
    go_enter Tryz.func39, Tryz.ntmps39
    go_upto_region 1 with fail
    rw [HW.out]
    clear HW
    go_upto_region 5 with fail
    clear c0 c1 c2 c3 c4 c5
    refine wp_region_held_drew (S := (fun wq => wq.cell? ⟨b, 0, none⟩ = some (ptr ab) ∧ wq.cell? ⟨w.heap.size, 0, none⟩ = some (.int .i64 2) ∧ wq.cell? ⟨w.heap.size, 1, none⟩ = some (.int .i64 v.s) ∧ wq.cell? ⟨w.heap.size, 2, none⟩ = some (.int .i64 v.b.i) ∧ wq.cell? ⟨w.heap.size, 3, none⟩ = some (.int .i64 v.b.t) ∧ wq.cell? ⟨w.heap.size, 4, none⟩ = some (.string v.v) ∧ wq.cell? ⟨w.heap.size, 5, none⟩ = some (.int .i64 0))) (by kernel_rfl) HSI.out (fun hHeld => ?_)
    refine wpAnyH_take (i := 0) (oi := ?p0b) (v := ?v0b) ?o0b (by kernel_rfl) (by kernel_rfl) (by kernel_rfl) ?q0b ?y0b hHeld ?r0b
    case o0b => simp only [List.getElem?_toArray, List.getElem?_cons_zero]; rfl
    case q0b => exact fun _ _ _ h => h
    case y0b => (refine Or.inl ⟨rfl, ?_⟩; intro wq hq; obtain ⟨z0, y0, y1, y2, y3, y4, y5⟩ := hq; go_simp; try with_reducible rfl)
    simp only [Act.put, List.setIfInBounds_toArray, List.set_cons_zero, List.set_cons_succ]
    refine wpAnyH_take (i := 1) (oi := ?p1b) (v := ?v1b) ?o1b (by kernel_rfl) (by kernel_rfl) (by kernel_rfl) ?q1b ?y1b hHeld ?r1b
    case o1b => simp only [List.getElem?_toArray, List.getElem?_cons_succ, List.getElem?_cons_zero]; rfl
    case q1b => exact fun _ _ _ h => h
    case y1b => (refine Or.inl ⟨rfl, ?_⟩; intro wq hq; obtain ⟨z0, y0, y1, y2, y3, y4, y5⟩ := hq; go_simp; try with_reducible rfl)
    simp only [Act.put, List.setIfInBounds_toArray, List.set_cons_zero, List.set_cons_succ]
    refine wpAnyH_take (i := 2) (oi := ?p2b) (v := ?v2b) ?o2b (by kernel_rfl) (by kernel_rfl) (by kernel_rfl) ?q2b ?y2b hHeld ?r2b
    case o2b => simp only [List.getElem?_toArray, List.getElem?_cons_succ, List.getElem?_cons_zero]; rfl
    case q2b => exact fun _ _ _ h => h
    case y2b => (refine Or.inl ⟨rfl, ?_⟩; intro wq hq; obtain ⟨z0, y0, y1, y2, y3, y4, y5⟩ := hq; go_simp; try with_reducible rfl)
    simp only [Act.put, List.setIfInBounds_toArray, List.set_cons_zero, List.set_cons_succ]
    refine wpAnyH_take (i := 3) (oi := ?p3b) (v := ?v3b) ?o3b (by kernel_rfl) (by kernel_rfl) (by kernel_rfl) ?q3b ?y3b hHeld ?r3b
    case o3b => simp only [List.getElem?_toArray, List.getElem?_cons_succ, List.getElem?_cons_zero]; rfl
    case q3b => exact fun _ _ _ h => h
    case y3b => (refine Or.inl ⟨rfl, ?_⟩; intro wq hq; obtain ⟨z0, y0, y1, y2, y3, y4, y5⟩ := hq; go_simp; try with_reducible rfl)
    simp only [Act.put, List.setIfInBounds_toArray, List.set_cons_zero, List.set_cons_succ]
    refine wpAnyH_take (i := 4) (oi := ?p4b) (v := ?v4b) ?o4b (by kernel_rfl) (by kernel_rfl) (by kernel_rfl) ?q4b ?y4b hHeld ?r4b
    case o4b => simp only [List.getElem?_toArray, List.getElem?_cons_succ, List.getElem?_cons_zero]; rfl
    case q4b => exact fun _ _ _ h => h
    case y4b => (refine Or.inl ⟨rfl, ?_⟩; intro wq hq; obtain ⟨z0, y0, y1, y2, y3, y4, y5⟩ := hq; go_simp; try with_reducible rfl)
    simp only [Act.put, List.setIfInBounds_toArray, List.set_cons_zero, List.set_cons_succ]
    refine wpAnyH_take (i := 5) (oi := ?p5b) (v := ?v5b) ?o5b (by kernel_rfl) (by kernel_rfl) (by kernel_rfl) ?q5b ?y5b hHeld ?r5b
    case o5b => simp only [List.getElem?_toArray, List.getElem?_cons_succ, List.getElem?_cons_zero]; rfl
    case q5b => exact fun _ _ _ h => h
    case y5b => (refine Or.inl ⟨rfl, ?_⟩; intro wq hq; obtain ⟨z0, y0, y1, y2, y3, y4, y5⟩ := hq; go_simp; try with_reducible rfl)
    simp only [Act.put, List.setIfInBounds_toArray, List.set_cons_zero, List.set_cons_succ]
    refine wpAnyH_ready (rs := [6]) (by kernel_rfl) (by simp) ?_
    refine AllReadyH.cons (o := ?p6b) ?o6b ?s6b AllReadyH.nil
    case o6b => simp only [List.getElem?_toArray, List.getElem?_cons_succ, List.getElem?_cons_zero]; rfl
    intro K hK
    go_simp
    refine HCL.out.mono ?_
    rintro e v9 ⟨_, rfl, has, hfr⟩
    have HQ := Hid_of (HFI.out _ _ _ has hfr)
    have hS := HKS.out _ _ hfr
    clear has hfr
    refine hK.out _ _ hS (fun hHeld => ?_)
    clear hK K
    refine wpAnyH_done (by kernel_rfl) ?_ _
    go_wp2
    go_end0
    exact ⟨_, rfl, HQ.out⟩
  | tr u =>
    obtain ⟨W, HW⟩ : ∃ W, Hid (w.alloc (.cells #[.int .i64 3, .int .i64 0, .int .i64 0, .int .i64 0, .string ⟨#[]⟩, .int .i64 u] 97) = W) := ⟨_, Hid_of rfl⟩
    have hb1 : Below w.heap.size w W := by rw [← HW.out]; exact bel1 w _
    have hr1 : W.heap[w.heap.size]? = some (.cells #[.int .i64 3, .int .i64 0, .int .i64 0, .int .i64 0, .string ⟨#[]⟩, .int .i64 u] 97 (0, 0)) := by rw [← HW.out]; exact heap_alloc_last w _
    obtain ⟨⟨c0, c1, c2, c3, c4, c5⟩, _⟩ := row6 hr1
    have hd := h.keep hb1
    have HD : Hid (DU w0 W.drew FA FD b ab db n P x) := hd.keep (Below.refl _ _).drew
    have HSI : Hid (W.drew.cell? ⟨b, 0, none⟩ = some (ptr ab) ∧ W.drew.cell? ⟨w.heap.size, 0, none⟩ = some (.int .i64 3) ∧ W.drew.cell? ⟨w.heap.size, 1, none⟩ = some (.int .i64 0) ∧ W.drew.cell? ⟨w.heap.size, 2, none⟩ = some (.int .i64 0) ∧ W.drew.cell? ⟨w.heap.size, 3, none⟩ = some (.int .i64 0) ∧ W.drew.cell? ⟨w.heap.size, 4, none⟩ = some (.string ⟨#[]⟩) ∧ W.drew.cell? ⟨w.heap.size, 5, none⟩ = some (.int .i64 u)) := ⟨(row7 hd.row).1.1, c0, c1, c2, c3, c4, c5⟩
    have hFAb : ¬ FA w.heap.size := fun e => by have := (h.a.mine _ e).2; omega
    have HKS : Hid (∀ w' G, Fr W.drew FA w' G → w'.cell? ⟨b, 0, none⟩ = some (ptr ab) ∧ w'.cell? ⟨w.heap.size, 0, none⟩ = some (.int .i64 3) ∧ w'.cell? ⟨w.heap.size, 1, none⟩ = some (.int .i64 0) ∧ w'.cell? ⟨w.heap.size, 2, none⟩ = some (.int .i64 0) ∧ w'.cell? ⟨w.heap.size, 3, none⟩ = some (.int .i64 0) ∧ w'.cell? ⟨w.heap.size, 4, none⟩ = some (.string ⟨#[]⟩) ∧ w'.cell? ⟨w.heap.size, 5, none⟩ = some (.int .i64 u)) := fun w' G hF =>
      ⟨(row7 ((hF.block b hd.lt hd.na).trans hd.row)).1.1, (row6 ((hF.block w.heap.size (Array.getElem?_eq_some_iff.1 hr1).1 hFAb).trans hr1)).1⟩
    have HFI : Hid (∀ w' G a', AS w0 w' G ab a' → Fr W.drew FA w' G → DU w0 w' G FD b ab db n P { x with a := a' } ∧ Fr w FA w' G) := fun w' G a' ha hF => by
      have h1 := HD.out.chA ha hF
      exact ⟨h1.1, (Fr.ofBelow (bel_up hb1 (Below.refl _ _).drew (Nat.le_refl _))).trans hF⟩
    have HBS := Hid_of HD.out.base
    have HCL := Hid_of (HD.out.a.trim u)
    clear h hd hb1 hr1 hFAb HD
    go_enter Tryz.func39, Tryz.ntmps39
    go_upto_region 1 with fail
    rw [HW.out]
    clear HW
    go_upto_region 7 with fail
    clear c0 c1 c2 c3 c4 c5
    refine wp_region_held_drew (S := (fun wq => wq.cell? ⟨b, 0, none⟩ = some (ptr ab) ∧ wq.cell? ⟨w.heap.size, 0, none⟩ = some (.int .i64 3) ∧ wq.cell? ⟨w.heap.size, 1, none⟩ = some (.int .i64 0) ∧ wq.cell? ⟨w.heap.size, 2, none⟩ = some (.int .i64 0) ∧ wq.cell? ⟨w.heap.size, 3, none⟩ = some (.int .i64 0) ∧ wq.cell? ⟨w.heap.size, 4, none⟩ = some (.string ⟨#[]⟩) ∧ wq.cell? ⟨w.heap.size, 5, none⟩ = some (.int .i64 u))) (by kernel_rfl) HSI.out (fun hHeld => ?_)
    refine wpAnyH_take (i := 0) (oi := ?p0c) (v := ?v0c) ?o0c (by kernel_rfl) (by kernel_rfl) (by kernel_rfl) ?q0c ?y0c hHeld ?r0c
    case o0c => simp only [List.getElem?_toArray, List.getElem?_cons_zero]; rfl
    case q0c => exact fun _ _ _ h => h
    case y0c => (refine Or.inl ⟨rfl, ?_⟩; intro wq hq; obtain ⟨z0, y0, y1, y2, y3, y4, y5⟩ := hq; go_simp; try with_reducible rfl)
    simp only [Act.put, List.setIfInBounds_toArray, List.set_cons_zero, List.set_cons_succ]
    refine wpAnyH_take (i := 1) (oi := ?p1c) (v := ?v1c) ?o1c (by kernel_rfl) (by kernel_rfl) (by kernel_rfl) ?q1c ?y1c hHeld ?r1c
    case o1c => simp only [List.getElem?_toArray, List.getElem?_cons_succ, List.getElem?_cons_zero]; rfl
    case q1c => exact fun _ _ _ h => h
    case y1c => (refine Or.inl ⟨rfl, ?_⟩; intro wq hq; obtain ⟨z0, y0, y1, y2, y3, y4, y5⟩ := hq; go_simp; try with_reducible rfl)
    simp only [Act.put, List.setIfInBounds_toArray, List.set_cons_zero, List.set_cons_succ]
    refine wpAnyH_take (i := 2) (oi := ?p2c) (v := ?v2c) ?o2c (by kernel_rfl) (by kernel_rfl) (by kernel_rfl) ?q2c ?y2c hHeld ?r2c
    case o2c => simp only [List.getElem?_toArray, List.getElem?_cons_succ, List.getElem?_cons_zero]; rfl
    case q2c => exact fun _ _ _ h => h
    case y2c => (refine Or.inl ⟨rfl, ?_⟩; intro wq hq; obtain ⟨z0, y0, y1, y2, y3, y4, y5⟩ := hq; go_simp; try with_reducible rfl)
    simp only [Act.put, List.setIfInBounds_toArray, List.set_cons_zero, List.set_cons_succ]
    refine wpAnyH_take (i := 3) (oi := ?p3c) (v := ?v3c) ?o3c (by kernel_rfl) (by kernel_rfl) (by kernel_rfl) ?q3c ?y3c hHeld ?r3c
    case o3c => simp only [List.getElem?_toArray, List.getElem?_cons_succ, List.getElem?_cons_zero]; rfl
    case q3c => exact fun _ _ _ h => h
    case y3c => (refine Or.inl ⟨rfl, ?_⟩; intro wq hq; obtain ⟨z0, y0, y1, y2, y3, y4, y5⟩ := hq; go_simp; try with_reducible rfl)
    simp only [Act.put, List.setIfInBounds_toArray, List.set_cons_zero, List.set_cons_succ]
    refine wpAnyH_take (i := 4) (oi := ?p4c) (v := ?v4c) ?o4c (by kernel_rfl) (by kernel_rfl) (by kernel_rfl) ?q4c ?y4c hHeld ?r4c
    case o4c => simp only [List.getElem?_toArray, List.getElem?_cons_succ, List.getElem?_cons_zero]; rfl
    case q4c => exact fun _ _ _ h => h
    case y4c => (refine Or.inl ⟨rfl, ?_⟩; intro wq hq; obtain ⟨z0, y0, y1, y2, y3, y4, y5⟩ := hq; go_simp; try with_reducible rfl)
    simp only [Act.put, List.setIfInBounds_toArray, List.set_cons_zero, List.set_cons_succ]
    refine wpAnyH_take (i := 5) (oi := ?p5c) (v := ?v5c) ?o5c (by kernel_rfl) (by kernel_rfl) (by kernel_rfl) ?q5c ?y5c hHeld ?r5c
    case o5c => simp only [List.getElem?_toArray, List.getElem?_cons_succ, List.getElem?_cons_zero]; rfl
    case q5c => exact fun _ _ _ h => h
    case y5c => (refine Or.inl ⟨rfl, ?_⟩; intro wq hq; obtain ⟨z0, y0, y1, y2, y3, y4, y5⟩ := hq; go_simp; try with_reducible rfl)
    simp only [Act.put, List.setIfInBounds_toArray, List.set_cons_zero, List.set_cons_succ]
    refine wpAnyH_ready (rs := [6]) (by kernel_rfl) (by simp) ?_
    refine AllReadyH.cons (o := ?p6c) ?o6c ?s6c AllReadyH.nil
    case o6c => simp only [List.getElem?_toArray, List.getElem?_cons_succ, List.getElem?_cons_zero]; rfl
    intro K hK
    go_simp
    refine HCL.out.mono ?_
    rintro e v9 ⟨_, rfl, has, hfr⟩
    have HQ := Hid_of (HFI.out _ _ _ has hfr)
    have hS := HKS.out _ _ hfr
    clear has hfr
    refine hK.out _ _ hS (fun hHeld => ?_)
    clear hK K
    refine wpAnyH_done (by kernel_rfl) ?_ _
    go_wp2
    go_end0
    exact ⟨_, rfl, HQ.out⟩
end
open Ns.M (ofL)
theorem byte01 (a : Nat) (ha : a ≤ 1) : (IntKind.u8.wrap (a : Int)) = ((UInt8.ofNat a).toNat : Int) := by
  rcases (show a = 0 ∨ a = 1 by omega) with rfl | rfl <;> rfl
theorem stateText_any (a : Nat) (ha : a ≤ 1) (w : World) : Calls Tryz.prog 76 #[.int .i64 a] w fun e w' => e = .returned (.string (ofL [UInt8.ofNat a])) ∧ Below w.heap.size w w' := by
  have hcv := Nc.one_convert w a (by omega)
  have HB := Hid_of (fun o => bel1 w o)
  have h256 : (a : Int) % 256 = a := by omega
  go_enter Tryz.func76, Tryz.ntmps76
  go_wp2
  go_ret
  exact ⟨rfl, HB.out _⟩
/-- The state as it is told. -/
theorem str_ne {a b : UInt8} (h : a ≠ b) : ((ofL [a]).toList == (ofL [b]).toList) = false := by
  rw [beq_eq_false_iff_ne]
  intro e
  rw [ByteArray.toList_eq, ByteArray.toList_eq] at e
  simp [Ns.M.ofL] at e
  exact h e
set_option maxRecDepth 100000 in
set_option maxHeartbeats 1000000 in
theorem stateOf_any {w0 w : World} {F : Nat → Prop} {db n : Nat} {P : List Ns.M.Pl} {ar ep : Nat} (h : Ns.DS w0 w db F n P false) (h8 : 8 ≤ n) (ha : ar ≤ 1) (hs : Ns.rdP (P.take 8) = (ep, bif decide (ep = 0) then [] else [UInt8.ofNat ar])) (h0 : ep = 0 → ar = 0) :
    Calls Tryz.prog 33 #[ptr db] w fun e w' => e = .returned (.tuple #[.int .i64 ar, .int .i64 ep, .int .i64 0]) ∧ Below w.heap.size w w' := by
  have hr := h.sread h8
  rw [hs] at hr
  clear h hs h8
  by_cases he : ep = 0
  · subst he
    have := h0 rfl
    subst this
    rw [show Ns.rcode (0, bif decide (0 = 0) then [] else [UInt8.ofNat 0]) = 7 from rfl] at hr
    go_enter Tryz.func33, Tryz.ntmps33
    go_wp2_with fail
    refine hr.mono ?_
    rintro e w1 ⟨rfl, hb1⟩
    have HB1 := Hid_of hb1
    clear hr hb1
    go_wp2
    go_ret3
    exact ⟨rfl, HB1.out⟩
  · have hc : Ns.rcode (ep, bif decide (ep = 0) then [] else [UInt8.ofNat ar]) = 0 := by unfold Ns.rcode; rw [decide_eq_false he]; rfl
    rw [hc, decide_eq_false he] at hr
    have hr' : Calls Tryz.prog 83 #[ptr db] w fun e w' => e = .returned (.tuple #[.string (ofL [UInt8.ofNat ar]), .int .i64 ep, .int .i64 0]) ∧ Below w.heap.size w w' := hr
    have s0 := fun W => stateText_any 0 (by omega) W
    have s1 := fun W => stateText_any 1 (by omega) W
    clear hr hc h0
    go_enter Tryz.func33, Tryz.ntmps33
    go_wp2_with fail
    refine hr'.mono ?_
    rintro e w1 ⟨rfl, hb1⟩
    have HB1 := Hid_of hb1
    clear hr' hb1
    go_wp2
    go_loopw [20] (fun i wr => ∃ k : Nat, k ≤ ar ∧ i = .int .i64 k ∧ Below w.heap.size w wr) (fun i _ => 2 - (intOf i).toNat)
    case atStart => exact ⟨0, by omega, rfl, HB1.out⟩
    case round =>
      obtain ⟨k, hk, rfl, hb⟩ := hrel
      have HB := Hid_of hb
      clear hb HB1
      rcases (show k = 0 ∧ ar = 0 ∨ k = 0 ∧ ar = 1 ∨ k = 1 ∧ ar = 1 by omega) with ⟨rfl, rfl⟩ | ⟨rfl, rfl⟩ | ⟨rfl, rfl⟩
      · have heq : ((ofL [UInt8.ofNat 0]).toList == (ofL [UInt8.ofNat 0]).toList) = true := by simp
        generalize ofL [UInt8.ofNat 0] = s at *
        go_wp2_with fail
        refine (s0 _).mono ?_
        rintro e w2 ⟨rfl, hb2⟩
        have HB2 := Hid_of (bel_up HB.out hb2 (Nat.le_refl _))
        clear hb2 s0 s1
        go_wp2
        go_ret3
        exact ⟨rfl, HB2.out⟩
      · have heq : ((ofL [UInt8.ofNat 1]).toList == (ofL [UInt8.ofNat 0]).toList) = false := str_ne (a := UInt8.ofNat 1) (b := UInt8.ofNat 0) (by decide)
        generalize ofL [UInt8.ofNat 0] = s at *
        generalize ofL [UInt8.ofNat 1] = t at *
        go_wp2_with fail
        refine (s0 _).mono ?_
        rintro e w2 ⟨rfl, hb2⟩
        have HB2 := Hid_of (bel_up HB.out hb2 (Nat.le_refl _))
        clear hb2
        go_wp2
        go_roundw
        case rel => exact ⟨1, by omega, by rfl, HB2.out⟩
        case measure => simp [intOf]
      · have heq : ((ofL [UInt8.ofNat 1]).toList == (ofL [UInt8.ofNat 1]).toList) = true := by simp
        generalize ofL [UInt8.ofNat 1] = s at *
        go_wp2_with fail
        refine (s1 _).mono ?_
        rintro e w2 ⟨rfl, hb2⟩
        have HB2 := Hid_of (bel_up HB.out hb2 (Nat.le_refl _))
        clear hb2 s0 s1
        go_wp2
        go_ret3
        exact ⟨rfl, HB2.out⟩
end Go.Proofs.YtlnedgjikkhplaaGreat.Du
