/-
  A vote and a trim, on a device.
-/
import Derived.Test.YtlnedgjikkhplaaGreatGN36
namespace Go.Proofs.YtlnedgjikkhplaaGreat.Du
open Go.RowKit
set_option linter.unusedVariables false
set_option linter.unusedSimpArgs false
open Na (Fr AS XL vl bV vV Hid_of bel1 bel2 bel_up bel_row row2 row4 blk OwnL AtL)
open Na.M (E V S S0)

theorem V_ext {y v : V} (h1 : y.s = v.s) (h2 : y.b = v.b) (h3 : y.v = v.v) : y = v := by
  cases y; cases v; simp_all
theorem veq_yes {y v : V} (h : Na.veq y.s y.b.i y.b.t y.v v.s v.b.i v.b.t v.v = true) : y = v := by
  unfold Na.veq at h
  simp at h
  obtain ⟨h1, ⟨h2, h3⟩, h4⟩ := h
  refine V_ext h1 (E_ext h2 h3) ?_
  rw [ByteArray.toList_eq, ByteArray.toList_eq] at h4
  exact ByteArray.ext (Array.toList_inj.1 h4)
theorem hs_mem {l : List V} {v : V} (h : hs l v = true) : v ∈ l := by
  unfold hs at h
  split at h
  · cases h
  · rename_i y r e
    have hm : y ∈ Na.M.vts l v.s := by rw [e]; simp
    rw [← veq_yes h]
    exact (Na.M.mem_vts.1 hm).1
theorem put_same {l : List V} (hu : Na.M.Up l) {v : V} (hv : v ∈ l) : Na.M.put l v = l := by
  refine up_uniq _ _ (Na.M.up_put hu v) hu fun x => ⟨fun h => ?_, fun h => ?_⟩
  · rcases Na.M.mem_put h with rfl | ⟨h', _⟩
    · exact hv
    · exact h'
  · by_cases e : x.s = v.s
    · exact Na.M.put_mem (.inl (Na.M.Up.uniq hu h hv e))
    · exact Na.M.put_mem (.inr ⟨h, e⟩)
theorem acs_same {a : S} (ho : Na.M.Ok a) {v : V} (h : Na.M.acb a v = true) (e : hs a.l v = true) : Na.M.acs a v = a := by
  have hv := hs_mem e
  have h1 := Na.M.may_yes (Na.M.acb_yes h).1
  have h2 := ho.pr v hv
  rw [cmpE_flip v.b a.p] at h2
  have : v.b = a.p := cmpE_zero.1 (by omega)
  rw [Na.M.acs_yes h, put_same ho.up hv, this]
theorem acb_wf {a : S} (ho : Na.M.Ok a) {v : V} (h : Na.M.acb a v = true) : Wf (.vo v) := by
  obtain ⟨h1, h2, h3, h4⟩ := Na.M.acb_yes h
  have h5 := vld_wf (may_vld h1)
  have h6 := ho.b0
  exact ⟨⟨by omega, by omega⟩, h5.1, h5.2, h4⟩
section
variable {w0 w w' : World} {FA FD FA' FD' : Nat → Prop} {b ab db n : Nat} {P P' : List Ns.M.Pl} {x x' : X} {rs : List R}
def AaO (w0 w : World) (FA FD : Nat → Prop) (b ab db n : Nat) (x : X) (v : V) (e : Ending) (w' : World) : Prop :=
  e = .returned (.tuple #[.bool (aab n x v), .int .i64 (aac n x v)]) ∧ Chg w0 w FA FD b ab db n (aax n x v) w'
set_option maxRecDepth 100000 in
set_option maxHeartbeats 2000000 in
theorem DU.accept (h : DU w0 w FA FD b ab db n P x) (hg : Gd n P x rs) (v : V) : Calls Tryz.prog 24 #[ptr b, vV v] w (AaO w0 w FA FD b ab db n x v) := by
  cases hcut : x.cut with
  | true =>
    obtain ⟨W1, HW1⟩ : ∃ W1, Hid (w.alloc (.cells #[.int .i64 v.s, .int .i64 v.b.i, .int .i64 v.b.t, .string v.v] 48) = W1) := ⟨_, Hid_of rfl⟩
    have hb1 : Below w.heap.size w W1 := by rw [← HW1.out]; exact bel1 w _
    have hr1 : W1.heap[w.heap.size]? = some (.cells #[.int .i64 v.s, .int .i64 v.b.i, .int .i64 v.b.t, .string v.v] 48 (0, 0)) := by rw [← HW1.out]; exact heap_alloc_last w _
    have hd1 := h.keep hb1
    have hrf := hd1.refused
    rw [hcut] at hrf
    have HB1 := Hid_of hb1
    have HQ : Hid (∀ w', Below w.heap.size w w' → AaO w0 w FA FD b ab db n x v (.returned (.tuple #[.bool false, .int .i64 16])) w') := fun w' hb => by
      have e1 : aab n x v = false := by unfold aab; rw [hcut]; rfl
      have e2 : aac n x v = 16 := by unfold aac; rw [if_pos hcut]
      have e4 : aax n x v = x := by unfold aax; rw [if_neg (by rw [e1]; simp)]
      refine ⟨by rw [e1, e2], ?_⟩
      rw [e4]
      exact Chg.same h hg hb
    clear h hg hb1 hr1 hd1
    go_enter Tryz.func24, Tryz.ntmps24
    go_upto_region 1 with fail
    rw [HW1.out]
    clear HW1
    go_wp2_with fail
    refine hrf.mono ?_
    rintro e w2 ⟨rfl, hw2⟩
    obtain rfl := hw2.symm
    clear hrf hw2
    go_wp2
    go_ret2
    exact HQ.out _ HB1.out
  | false =>
    cases hp : Na.M.acb x.a v with
    | false =>
      obtain ⟨W1, HW1⟩ : ∃ W1, Hid (w.alloc (.cells #[.int .i64 v.s, .int .i64 v.b.i, .int .i64 v.b.t, .string v.v] 48) = W1) := ⟨_, Hid_of rfl⟩
      have hb1 : Below w.heap.size w W1 := by rw [← HW1.out]; exact bel1 w _
      have hr1 : W1.heap[w.heap.size]? = some (.cells #[.int .i64 v.s, .int .i64 v.b.i, .int .i64 v.b.t, .string v.v] 48 (0, 0)) := by rw [← HW1.out]; exact heap_alloc_last w _
      have hd1 := h.keep hb1
      have hrf := hd1.refused
      rw [hcut] at hrf
      have HTR : Hid (∀ w', Below W1.heap.size W1 w' → Calls Tryz.prog 56 #[ptr b] w' (TrO w' x.a)) := fun w' hb => (hd1.keep hb).trial hg.aok.2
      have HS : Hid (∀ w', Below W1.heap.size W1 w' → w'.cell? ⟨w.heap.size, 0, none⟩ = some (.int .i64 v.s) ∧ w'.cell? ⟨w.heap.size, 1, none⟩ = some (.int .i64 v.b.i) ∧ w'.cell? ⟨w.heap.size, 2, none⟩ = some (.int .i64 v.b.t) ∧ w'.cell? ⟨w.heap.size, 3, none⟩ = some (.string v.v)) := fun w' hb => (row4 (bel_row hr1 hb)).1
      have HR1 := Hid_of hr1
      have HB1 := Hid_of hb1
      have HQ : Hid (∀ w', Below w.heap.size w w' → AaO w0 w FA FD b ab db n x v (.returned (.tuple #[.bool false, .int .i64 0])) w') := fun w' hb => by
        have e1 : aab n x v = false := by unfold aab; rw [hcut, hp]; rfl
        have e2 : aac n x v = 0 := by unfold aac; rw [if_neg (by rw [hcut]; simp), if_neg (by rw [hp]; simp)]
        have e4 : aax n x v = x := by unfold aax; rw [if_neg (by rw [e1]; simp)]
        refine ⟨by rw [e1, e2], ?_⟩
        rw [e4]
        exact Chg.same h hg hb
      clear h hg hb1 hr1 hd1
      go_enter Tryz.func24, Tryz.ntmps24
      go_upto_region 1 with fail
      rw [HW1.out]
      clear HW1
      go_wp2_with fail
      refine hrf.mono ?_
      rintro e w2 ⟨rfl, hw2⟩
      obtain rfl := hw2.symm
      clear hrf hw2
      go_upto_region 4 with fail
      refine wp_region_held_drew (S := fun wq => Below (W1).heap.size (W1) wq) (by kernel_rfl) (Below.drew (Below.refl _ _)) (fun hHeld => ?_)
      refine wpAnyH_take (i := 0) (oi := ?p0a) (v := ?v0a) ?o0a (by kernel_rfl) (by kernel_rfl) (by kernel_rfl) ?q0a ?y0a hHeld ?r0a
      case o0a => simp only [List.getElem?_toArray, List.getElem?_cons_zero]; rfl
      case q0a => exact fun _ _ _ h => h
      case y0a => (refine Or.inl ⟨rfl, ?_⟩; intro wq hq; obtain ⟨y0, y1, y2, y3⟩ := HS.out wq hq; go_simp; try with_reducible rfl)
      simp only [Act.put, List.setIfInBounds_toArray, List.set_cons_zero, List.set_cons_succ]
      refine wpAnyH_take (i := 2) (oi := ?p2a) (v := ?v2a) ?o2a (by kernel_rfl) (by kernel_rfl) (by kernel_rfl) ?q2a ?y2a hHeld ?r2a
      case o2a => simp only [List.getElem?_toArray, List.getElem?_cons_succ, List.getElem?_cons_zero]; rfl
      case q2a => exact fun _ _ _ h => h
      case y2a => (refine Or.inl ⟨rfl, ?_⟩; intro wq hq; obtain ⟨y0, y1, y2, y3⟩ := HS.out wq hq; go_simp; try with_reducible rfl)
      simp only [Act.put, List.setIfInBounds_toArray, List.set_cons_zero, List.set_cons_succ]
      refine wpAnyH_ready (rs := [1]) (by kernel_rfl) (by simp) ?_
      refine AllReadyH.cons (o := ?p1a) ?o1a ?s1a AllReadyH.nil
      case o1a => simp only [List.getElem?_toArray, List.getElem?_cons_succ, List.getElem?_cons_zero]; rfl
      intro K hK
      go_simp
      have HH0 := Hid_of hHeld
      refine (HTR.out _ hHeld).mono ?_
      rintro e v1 ⟨tb, Ft, rfl, a1⟩
      have B1 : Below W1.heap.size W1 v1 := hHeld.trans (a1.bel.mono hHeld.size)
      have HA1 := Hid_of a1
      clear a1
      refine hK.out _ _ B1 (fun hHeld => ?_)
      clear hK K
      refine wpAnyH_ready (rs := [3]) (by kernel_rfl) (by simp) ?_
      refine AllReadyH.cons (o := ?p3a) ?o3a ?s3a AllReadyH.nil
      case o3a => simp only [List.getElem?_toArray, List.getElem?_cons_succ, List.getElem?_cons_zero]; rfl
      intro K hK
      go_simp
      refine (HA1.out.accept v).mono ?_
      rintro e v4 ⟨_, rfl, a4, _⟩
      have B4 : Below W1.heap.size W1 v4 := HH0.out.trans (a4.bel.mono HH0.out.size)
      clear a4 HA1 HH0
      rw [tri_acb, hp]
      refine hK.out _ _ B4 (fun hHeld => ?_)
      clear hK K
      refine wpAnyH_take (i := 4) (oi := ?p4a) (v := ?v4a) ?o4a (by kernel_rfl) (by kernel_rfl) (by kernel_rfl) ?q4a ?y4a hHeld ?r4a
      case o4a => simp only [List.getElem?_toArray, List.getElem?_cons_succ, List.getElem?_cons_zero]; rfl
      case q4a => exact fun _ _ _ h => h
      case y4a => (refine Or.inl ⟨rfl, ?_⟩; intro wq hq; obtain ⟨y0, y1, y2, y3⟩ := HS.out wq hq; go_simp; try with_reducible rfl)
      simp only [Act.put, List.setIfInBounds_toArray, List.set_cons_zero, List.set_cons_succ]
      refine wpAnyH_done (by kernel_rfl) ?_ _
      have HB4 := Hid_of (bel_up HB1.out hHeld (Nat.le_refl _))
      have HR4 := Hid_of (bel_row HR1.out hHeld)
      clear hHeld HS HTR HR1 HB1
      go_wp2
      go_ret2
      exact HQ.out _ HB4.out
    | true =>
      cases he : hs x.a.l v with
      | true =>
        obtain ⟨W1, HW1⟩ : ∃ W1, Hid (w.alloc (.cells #[.int .i64 v.s, .int .i64 v.b.i, .int .i64 v.b.t, .string v.v] 48) = W1) := ⟨_, Hid_of rfl⟩
        have hb1 : Below w.heap.size w W1 := by rw [← HW1.out]; exact bel1 w _
        have hr1 : W1.heap[w.heap.size]? = some (.cells #[.int .i64 v.s, .int .i64 v.b.i, .int .i64 v.b.t, .string v.v] 48 (0, 0)) := by rw [← HW1.out]; exact heap_alloc_last w _
        have hd1 := h.keep hb1
        have hrf := hd1.refused
        rw [hcut] at hrf
        have HTR : Hid (∀ w', Below W1.heap.size W1 w' → Calls Tryz.prog 56 #[ptr b] w' (TrO w' x.a)) := fun w' hb => (hd1.keep hb).trial hg.aok.2
        have HS : Hid (∀ w', Below W1.heap.size W1 w' → w'.cell? ⟨w.heap.size, 0, none⟩ = some (.int .i64 v.s) ∧ w'.cell? ⟨w.heap.size, 1, none⟩ = some (.int .i64 v.b.i) ∧ w'.cell? ⟨w.heap.size, 2, none⟩ = some (.int .i64 v.b.t) ∧ w'.cell? ⟨w.heap.size, 3, none⟩ = some (.string v.v)) := fun w' hb => (row4 (bel_row hr1 hb)).1
        have HR1 := Hid_of hr1
        have HB1 := Hid_of hb1
        have HH := Hid_of h
        have HG := Hid_of hg
        have HNF : Hid (¬ FA w.heap.size) := fun e => by have := (h.a.mine _ e).2; omega
        have HNB : Hid (¬ fpd b FA FD w.heap.size) := fun e => by have := (h.mine _ e).2; omega
        clear h hg hb1 hr1 hd1
        go_enter Tryz.func24, Tryz.ntmps24
        go_upto_region 1 with fail
        rw [HW1.out]
        clear HW1
        go_wp2_with fail
        refine hrf.mono ?_
        rintro e w2 ⟨rfl, hw2⟩
        obtain rfl := hw2.symm
        clear hrf hw2
        go_upto_region 4 with fail
        refine wp_region_held_drew (S := fun wq => Below (W1).heap.size (W1) wq) (by kernel_rfl) (Below.drew (Below.refl _ _)) (fun hHeld => ?_)
        refine wpAnyH_take (i := 0) (oi := ?p0d) (v := ?v0d) ?o0d (by kernel_rfl) (by kernel_rfl) (by kernel_rfl) ?q0d ?y0d hHeld ?r0d
        case o0d => simp only [List.getElem?_toArray, List.getElem?_cons_zero]; rfl
        case q0d => exact fun _ _ _ h => h
        case y0d => (refine Or.inl ⟨rfl, ?_⟩; intro wq hq; obtain ⟨y0, y1, y2, y3⟩ := HS.out wq hq; go_simp; try with_reducible rfl)
        simp only [Act.put, List.setIfInBounds_toArray, List.set_cons_zero, List.set_cons_succ]
        refine wpAnyH_take (i := 2) (oi := ?p2d) (v := ?v2d) ?o2d (by kernel_rfl) (by kernel_rfl) (by kernel_rfl) ?q2d ?y2d hHeld ?r2d
        case o2d => simp only [List.getElem?_toArray, List.getElem?_cons_succ, List.getElem?_cons_zero]; rfl
        case q2d => exact fun _ _ _ h => h
        case y2d => (refine Or.inl ⟨rfl, ?_⟩; intro wq hq; obtain ⟨y0, y1, y2, y3⟩ := HS.out wq hq; go_simp; try with_reducible rfl)
        simp only [Act.put, List.setIfInBounds_toArray, List.set_cons_zero, List.set_cons_succ]
        refine wpAnyH_ready (rs := [1]) (by kernel_rfl) (by simp) ?_
        refine AllReadyH.cons (o := ?p1d) ?o1d ?s1d AllReadyH.nil
        case o1d => simp only [List.getElem?_toArray, List.getElem?_cons_succ, List.getElem?_cons_zero]; rfl
        intro K hK
        go_simp
        have HH0 := Hid_of hHeld
        refine (HTR.out _ hHeld).mono ?_
        rintro e v1 ⟨tb, Ft, rfl, a1⟩
        have B1 : Below W1.heap.size W1 v1 := hHeld.trans (a1.bel.mono hHeld.size)
        have HA1 := Hid_of a1
        clear a1
        refine hK.out _ _ B1 (fun hHeld => ?_)
        clear hK K
        refine wpAnyH_ready (rs := [3]) (by kernel_rfl) (by simp) ?_
        refine AllReadyH.cons (o := ?p3d) ?o3d ?s3d AllReadyH.nil
        case o3d => simp only [List.getElem?_toArray, List.getElem?_cons_succ, List.getElem?_cons_zero]; rfl
        intro K hK
        go_simp
        refine (HA1.out.accept v).mono ?_
        rintro e v4 ⟨_, rfl, a4, _⟩
        have B4 : Below W1.heap.size W1 v4 := HH0.out.trans (a4.bel.mono HH0.out.size)
        clear a4 HA1 HH0
        rw [tri_acb, hp]
        refine hK.out _ _ B4 (fun hHeld => ?_)
        clear hK K
        refine wpAnyH_take (i := 4) (oi := ?p4d) (v := ?v4d) ?o4d (by kernel_rfl) (by kernel_rfl) (by kernel_rfl) ?q4d ?y4d hHeld ?r4d
        case o4d => simp only [List.getElem?_toArray, List.getElem?_cons_succ, List.getElem?_cons_zero]; rfl
        case q4d => exact fun _ _ _ h => h
        case y4d => (refine Or.inl ⟨rfl, ?_⟩; intro wq hq; obtain ⟨y0, y1, y2, y3⟩ := HS.out wq hq; go_simp; try with_reducible rfl)
        simp only [Act.put, List.setIfInBounds_toArray, List.set_cons_zero, List.set_cons_succ]
        refine wpAnyH_done (by kernel_rfl) ?_ _
        have HB4 := Hid_of (bel_up HB1.out hHeld (Nat.le_refl _))
        have HR4 := Hid_of (bel_row HR1.out hHeld)
        clear hHeld HS HTR HR1 HB1
        obtain ⟨⟨c0, c1, c2, c3⟩, _⟩ := row4 HR4.out
        have hhs := (HH.out.keep HB4.out).has v
        rw [he] at hhs
        go_wp2_with fail
        refine hhs.mono ?_
        rintro e w7 ⟨rfl, hb7⟩
        have HB7 := Hid_of (bel_up HB4.out hb7 (Nat.le_refl _))
        have HR7 := Hid_of (bel_row HR4.out hb7)
        clear hhs hb7 HB4 HR4 c0 c1 c2 c3
        have HDL := Hid_of (HH.out.keep HB7.out)
        have HRL := HR7
        have HDd : Hid (DU w0 w7.drew FA FD b ab db n P x) := HDL.out.keep (Below.refl _ _).drew
        have HSI : Hid (w7.drew.cell? ⟨b, 0, none⟩ = some (ptr ab) ∧ w7.drew.cell? ⟨w.heap.size, 0, none⟩ = some (.int .i64 v.s) ∧ w7.drew.cell? ⟨w.heap.size, 1, none⟩ = some (.int .i64 v.b.i) ∧ w7.drew.cell? ⟨w.heap.size, 2, none⟩ = some (.int .i64 v.b.t) ∧ w7.drew.cell? ⟨w.heap.size, 3, none⟩ = some (.string v.v)) := ⟨(row7 HDL.out.row).1.1, (row4 HRL.out).1⟩
        have HKS : Hid (∀ w' G, Fr w7.drew FA w' G → w'.cell? ⟨b, 0, none⟩ = some (ptr ab) ∧ w'.cell? ⟨w.heap.size, 0, none⟩ = some (.int .i64 v.s) ∧ w'.cell? ⟨w.heap.size, 1, none⟩ = some (.int .i64 v.b.i) ∧ w'.cell? ⟨w.heap.size, 2, none⟩ = some (.int .i64 v.b.t) ∧ w'.cell? ⟨w.heap.size, 3, none⟩ = some (.string v.v)) := fun w' G hF =>
          ⟨(row7 ((hF.block b HDL.out.lt HDL.out.na).trans HDL.out.row)).1.1, (row4 ((hF.block w.heap.size (Array.getElem?_eq_some_iff.1 HRL.out).1 HNF.out).trans HRL.out)).1⟩
        have HCL := Hid_of (HDd.out.a.accept v)
        have HFI : Hid (∀ w' G, AS w0 w' G ab (Na.M.acs x.a v) → Fr w7.drew FA w' G → AaO w0 w FA FD b ab db n x v (.returned (.tuple #[.bool true, .int .i64 0])) w') := fun w' G ha hF => by
          have e1 : aab n x v = true := by unfold aab; rw [hcut, hp, he]; rfl
          have e2 : aac n x v = 0 := by unfold aac; rw [if_neg (by rw [hcut]; simp), if_neg (by rw [he]; simp)]
          have e4 : aax n x v = x := by unfold aax; rw [if_neg (by rw [he]; simp)]
          have h1 := HDd.out.chA ha hF
          rw [acs_same HG.out.aok.1 hp he] at h1
          refine ⟨by rw [e1, e2], ?_⟩
          rw [e4]
          exact ⟨G, FD, P, rs, h1.1, HG.out, (Fr.ofBelow (bel_up HB7.out (Below.refl _ _).drew (Nat.le_refl _))).trans h1.2⟩
        clear HDL HRL HDd HR7 HB7 HH HG HNF HNB
        go_upto_region 10 with fail
        refine wp_region_held_drew (S := (fun wq => wq.cell? ⟨b, 0, none⟩ = some (ptr ab) ∧ wq.cell? ⟨w.heap.size, 0, none⟩ = some (.int .i64 v.s) ∧ wq.cell? ⟨w.heap.size, 1, none⟩ = some (.int .i64 v.b.i) ∧ wq.cell? ⟨w.heap.size, 2, none⟩ = some (.int .i64 v.b.t) ∧ wq.cell? ⟨w.heap.size, 3, none⟩ = some (.string v.v))) (by kernel_rfl) HSI.out (fun hHeld => ?_)
        refine wpAnyH_take (i := 0) (oi := ?p0c) (v := ?v0c) ?o0c (by kernel_rfl) (by kernel_rfl) (by kernel_rfl) ?q0c ?y0c hHeld ?r0c
        case o0c => simp only [List.getElem?_toArray, List.getElem?_cons_zero]; rfl
        case q0c => exact fun _ _ _ h => h
        case y0c => (refine Or.inl ⟨rfl, ?_⟩; intro wq hq; obtain ⟨z0, y0, y1, y2, y3⟩ := hq; go_simp; try with_reducible rfl)
        simp only [Act.put, List.setIfInBounds_toArray, List.set_cons_zero, List.set_cons_succ]
        refine wpAnyH_take (i := 1) (oi := ?p1c) (v := ?v1c) ?o1c (by kernel_rfl) (by kernel_rfl) (by kernel_rfl) ?q1c ?y1c hHeld ?r1c
        case o1c => simp only [List.getElem?_toArray, List.getElem?_cons_succ, List.getElem?_cons_zero]; rfl
        case q1c => exact fun _ _ _ h => h
        case y1c => (refine Or.inl ⟨rfl, ?_⟩; intro wq hq; obtain ⟨z0, y0, y1, y2, y3⟩ := hq; go_simp; try with_reducible rfl)
        simp only [Act.put, List.setIfInBounds_toArray, List.set_cons_zero, List.set_cons_succ]
        refine wpAnyH_take (i := 2) (oi := ?p2c) (v := ?v2c) ?o2c (by kernel_rfl) (by kernel_rfl) (by kernel_rfl) ?q2c ?y2c hHeld ?r2c
        case o2c => simp only [List.getElem?_toArray, List.getElem?_cons_succ, List.getElem?_cons_zero]; rfl
        case q2c => exact fun _ _ _ h => h
        case y2c => (refine Or.inl ⟨rfl, ?_⟩; intro wq hq; obtain ⟨z0, y0, y1, y2, y3⟩ := hq; go_simp; try with_reducible rfl)
        simp only [Act.put, List.setIfInBounds_toArray, List.set_cons_zero, List.set_cons_succ]
        refine wpAnyH_take (i := 3) (oi := ?p3c) (v := ?v3c) ?o3c (by kernel_rfl) (by kernel_rfl) (by kernel_rfl) ?q3c ?y3c hHeld ?r3c
        case o3c => simp only [List.getElem?_toArray, List.getElem?_cons_succ, List.getElem?_cons_zero]; rfl
        case q3c => exact fun _ _ _ h => h
        case y3c => (refine Or.inl ⟨rfl, ?_⟩; intro wq hq; obtain ⟨z0, y0, y1, y2, y3⟩ := hq; go_simp; try with_reducible rfl)
        simp only [Act.put, List.setIfInBounds_toArray, List.set_cons_zero, List.set_cons_succ]
        refine wpAnyH_take (i := 4) (oi := ?p4c) (v := ?v4c) ?o4c (by kernel_rfl) (by kernel_rfl) (by kernel_rfl) ?q4c ?y4c hHeld ?r4c
        case o4c => simp only [List.getElem?_toArray, List.getElem?_cons_succ, List.getElem?_cons_zero]; rfl
        case q4c => exact fun _ _ _ h => h
        case y4c => (refine Or.inl ⟨rfl, ?_⟩; intro wq hq; obtain ⟨z0, y0, y1, y2, y3⟩ := hq; go_simp; try with_reducible rfl)
        simp only [Act.put, List.setIfInBounds_toArray, List.set_cons_zero, List.set_cons_succ]
        refine wpAnyH_ready (rs := [5]) (by kernel_rfl) (by simp) ?_
        refine AllReadyH.cons (o := ?p5c) ?o5c ?s5c AllReadyH.nil
        case o5c => simp only [List.getElem?_toArray, List.getElem?_cons_succ, List.getElem?_cons_zero]; rfl
        intro K hK
        go_simp
        refine HCL.out.mono ?_
        rintro e v6 ⟨G6, rfl, a6, f6⟩
        have hS := HKS.out _ _ f6
        have HF := Hid_of (HFI.out _ _ a6 f6)
        clear a6 f6
        rw [hp]
        refine hK.out _ _ hS (fun hHeld => ?_)
        clear hK K
        refine wpAnyH_take (i := 6) (oi := ?p6c) (v := ?v6c) ?o6c (by kernel_rfl) (by kernel_rfl) (by kernel_rfl) ?q6c ?y6c hHeld ?r6c
        case o6c => simp only [List.getElem?_toArray, List.getElem?_cons_succ, List.getElem?_cons_zero]; rfl
        case q6c => exact fun _ _ _ h => h
        case y6c => (refine Or.inl ⟨rfl, ?_⟩; intro wq hq; obtain ⟨z0, y0, y1, y2, y3⟩ := hq; go_simp; try with_reducible rfl)
        simp only [Act.put, List.setIfInBounds_toArray, List.set_cons_zero, List.set_cons_succ]
        refine wpAnyH_take (i := 7) (oi := ?p7c) (v := ?v7c) ?o7c (by kernel_rfl) (by kernel_rfl) (by kernel_rfl) ?q7c ?y7c hHeld ?r7c
        case o7c => simp only [List.getElem?_toArray, List.getElem?_cons_succ, List.getElem?_cons_zero]; rfl
        case q7c => exact fun _ _ _ h => h
        case y7c => (refine Or.inl ⟨rfl, ?_⟩; intro wq hq; obtain ⟨z0, y0, y1, y2, y3⟩ := hq; go_simp; try with_reducible rfl)
        simp only [Act.put, List.setIfInBounds_toArray, List.set_cons_zero, List.set_cons_succ]
        refine wpAnyH_done (by kernel_rfl) ?_ _
        go_wp2
        go_ret2
        exact HF.out
      | false =>
        obtain ⟨W1, HW1⟩ : ∃ W1, Hid (w.alloc (.cells #[.int .i64 v.s, .int .i64 v.b.i, .int .i64 v.b.t, .string v.v] 48) = W1) := ⟨_, Hid_of rfl⟩
        have hb1 : Below w.heap.size w W1 := by rw [← HW1.out]; exact bel1 w _
        have hr1 : W1.heap[w.heap.size]? = some (.cells #[.int .i64 v.s, .int .i64 v.b.i, .int .i64 v.b.t, .string v.v] 48 (0, 0)) := by rw [← HW1.out]; exact heap_alloc_last w _
        have hd1 := h.keep hb1
        have hrf := hd1.refused
        rw [hcut] at hrf
        have HTR : Hid (∀ w', Below W1.heap.size W1 w' → Calls Tryz.prog 56 #[ptr b] w' (TrO w' x.a)) := fun w' hb => (hd1.keep hb).trial hg.aok.2
        have HS : Hid (∀ w', Below W1.heap.size W1 w' → w'.cell? ⟨w.heap.size, 0, none⟩ = some (.int .i64 v.s) ∧ w'.cell? ⟨w.heap.size, 1, none⟩ = some (.int .i64 v.b.i) ∧ w'.cell? ⟨w.heap.size, 2, none⟩ = some (.int .i64 v.b.t) ∧ w'.cell? ⟨w.heap.size, 3, none⟩ = some (.string v.v)) := fun w' hb => (row4 (bel_row hr1 hb)).1
        have HR1 := Hid_of hr1
        have HB1 := Hid_of hb1
        have HH := Hid_of h
        have HG := Hid_of hg
        have HNF : Hid (¬ FA w.heap.size) := fun e => by have := (h.a.mine _ e).2; omega
        have HNB : Hid (¬ fpd b FA FD w.heap.size) := fun e => by have := (h.mine _ e).2; omega
        clear h hg hb1 hr1 hd1
        go_enter Tryz.func24, Tryz.ntmps24
        go_upto_region 1 with fail
        rw [HW1.out]
        clear HW1
        go_wp2_with fail
        refine hrf.mono ?_
        rintro e w2 ⟨rfl, hw2⟩
        obtain rfl := hw2.symm
        clear hrf hw2
        go_upto_region 4 with fail
        refine wp_region_held_drew (S := fun wq => Below (W1).heap.size (W1) wq) (by kernel_rfl) (Below.drew (Below.refl _ _)) (fun hHeld => ?_)
        refine wpAnyH_take (i := 0) (oi := ?p0e) (v := ?v0e) ?o0e (by kernel_rfl) (by kernel_rfl) (by kernel_rfl) ?q0e ?y0e hHeld ?r0e
        case o0e => simp only [List.getElem?_toArray, List.getElem?_cons_zero]; rfl
        case q0e => exact fun _ _ _ h => h
        case y0e => (refine Or.inl ⟨rfl, ?_⟩; intro wq hq; obtain ⟨y0, y1, y2, y3⟩ := HS.out wq hq; go_simp; try with_reducible rfl)
        simp only [Act.put, List.setIfInBounds_toArray, List.set_cons_zero, List.set_cons_succ]
        refine wpAnyH_take (i := 2) (oi := ?p2e) (v := ?v2e) ?o2e (by kernel_rfl) (by kernel_rfl) (by kernel_rfl) ?q2e ?y2e hHeld ?r2e
        case o2e => simp only [List.getElem?_toArray, List.getElem?_cons_succ, List.getElem?_cons_zero]; rfl
        case q2e => exact fun _ _ _ h => h
        case y2e => (refine Or.inl ⟨rfl, ?_⟩; intro wq hq; obtain ⟨y0, y1, y2, y3⟩ := HS.out wq hq; go_simp; try with_reducible rfl)
        simp only [Act.put, List.setIfInBounds_toArray, List.set_cons_zero, List.set_cons_succ]
        refine wpAnyH_ready (rs := [1]) (by kernel_rfl) (by simp) ?_
        refine AllReadyH.cons (o := ?p1e) ?o1e ?s1e AllReadyH.nil
        case o1e => simp only [List.getElem?_toArray, List.getElem?_cons_succ, List.getElem?_cons_zero]; rfl
        intro K hK
        go_simp
        have HH0 := Hid_of hHeld
        refine (HTR.out _ hHeld).mono ?_
        rintro e v1 ⟨tb, Ft, rfl, a1⟩
        have B1 : Below W1.heap.size W1 v1 := hHeld.trans (a1.bel.mono hHeld.size)
        have HA1 := Hid_of a1
        clear a1
        refine hK.out _ _ B1 (fun hHeld => ?_)
        clear hK K
        refine wpAnyH_ready (rs := [3]) (by kernel_rfl) (by simp) ?_
        refine AllReadyH.cons (o := ?p3e) ?o3e ?s3e AllReadyH.nil
        case o3e => simp only [List.getElem?_toArray, List.getElem?_cons_succ, List.getElem?_cons_zero]; rfl
        intro K hK
        go_simp
        refine (HA1.out.accept v).mono ?_
        rintro e v4 ⟨_, rfl, a4, _⟩
        have B4 : Below W1.heap.size W1 v4 := HH0.out.trans (a4.bel.mono HH0.out.size)
        clear a4 HA1 HH0
        rw [tri_acb, hp]
        refine hK.out _ _ B4 (fun hHeld => ?_)
        clear hK K
        refine wpAnyH_take (i := 4) (oi := ?p4e) (v := ?v4e) ?o4e (by kernel_rfl) (by kernel_rfl) (by kernel_rfl) ?q4e ?y4e hHeld ?r4e
        case o4e => simp only [List.getElem?_toArray, List.getElem?_cons_succ, List.getElem?_cons_zero]; rfl
        case q4e => exact fun _ _ _ h => h
        case y4e => (refine Or.inl ⟨rfl, ?_⟩; intro wq hq; obtain ⟨y0, y1, y2, y3⟩ := HS.out wq hq; go_simp; try with_reducible rfl)
        simp only [Act.put, List.setIfInBounds_toArray, List.set_cons_zero, List.set_cons_succ]
        refine wpAnyH_done (by kernel_rfl) ?_ _
        have HB4 := Hid_of (bel_up HB1.out hHeld (Nat.le_refl _))
        have HR4 := Hid_of (bel_row HR1.out hHeld)
        clear hHeld HS HTR HR1 HB1
        obtain ⟨⟨c0, c1, c2, c3⟩, _⟩ := row4 HR4.out
        have hhs := (HH.out.keep HB4.out).has v
        rw [he] at hhs
        go_wp2_with fail
        refine hhs.mono ?_
        rintro e w7 ⟨rfl, hb7⟩
        have HB7 := Hid_of (bel_up HB4.out hb7 (Nat.le_refl _))
        have HR7 := Hid_of (bel_row HR4.out hb7)
        clear hhs hb7 HB4 HR4 c0 c1 c2 c3
        have hpr := fun W => voteRecord_any v W
        obtain ⟨⟨c0, c1, c2, c3⟩, _⟩ := row4 HR7.out
        go_wp2_with fail
        refine (hpr _).mono ?_
        rintro e w8 ⟨rfl, hb8⟩
        have HB8 := Hid_of (bel_up HB7.out hb8 (Nat.le_refl _))
        have HR8 := Hid_of (bel_row HR7.out hb8)
        have had := (HH.out.keep HB8.out).add HG.out (.vo v) (acb_wf HG.out.aok.1 hp)
        clear hpr hb8 HB7 HR7 c0 c1 c2 c3
        go_wp2_with fail
        refine had.mono ?_
        rintro e w9 ⟨hy, hno⟩
        clear had
        by_cases hz : sec x.ep x.n (.vo v) ≤ hf n - x.us
        · obtain ⟨G, rfl, hd9, hf9⟩ := hy hz
          have HDL := Hid_of hd9
          have HRL : Hid (w9.heap[w.heap.size]? = some (.cells #[.int .i64 v.s, .int .i64 v.b.i, .int .i64 v.b.t, .string v.v] 48 (0, 0))) := (hf9.block w.heap.size (Array.getElem?_eq_some_iff.1 HR8.out).1 HNB.out).trans HR8.out
          have HFL := Hid_of ((Fr.ofBelow HB8.out).trans hf9)
          clear hy hno hd9 hf9 HB8 HR8
          have HDd : Hid (DU w0 w9.drew FA G b ab db n (addP n P x (.vo v)) { x with n := x.n + 1, us := x.us + sec x.ep x.n (.vo v) }) := HDL.out.keep (Below.refl _ _).drew
          have HSI : Hid (w9.drew.cell? ⟨b, 0, none⟩ = some (ptr ab) ∧ w9.drew.cell? ⟨w.heap.size, 0, none⟩ = some (.int .i64 v.s) ∧ w9.drew.cell? ⟨w.heap.size, 1, none⟩ = some (.int .i64 v.b.i) ∧ w9.drew.cell? ⟨w.heap.size, 2, none⟩ = some (.int .i64 v.b.t) ∧ w9.drew.cell? ⟨w.heap.size, 3, none⟩ = some (.string v.v)) := ⟨(row7 HDL.out.row).1.1, (row4 HRL.out).1⟩
          have HKS : Hid (∀ w' G, Fr w9.drew FA w' G → w'.cell? ⟨b, 0, none⟩ = some (ptr ab) ∧ w'.cell? ⟨w.heap.size, 0, none⟩ = some (.int .i64 v.s) ∧ w'.cell? ⟨w.heap.size, 1, none⟩ = some (.int .i64 v.b.i) ∧ w'.cell? ⟨w.heap.size, 2, none⟩ = some (.int .i64 v.b.t) ∧ w'.cell? ⟨w.heap.size, 3, none⟩ = some (.string v.v)) := fun w' G hF =>
            ⟨(row7 ((hF.block b HDL.out.lt HDL.out.na).trans HDL.out.row)).1.1, (row4 ((hF.block w.heap.size (Array.getElem?_eq_some_iff.1 HRL.out).1 HNF.out).trans HRL.out)).1⟩
          have HCL := Hid_of (HDd.out.a.accept v)
          have HFI : Hid (∀ w' G', AS w0 w' G' ab (Na.M.acs x.a v) → Fr w9.drew FA w' G' → AaO w0 w FA FD b ab db n x v (.returned (.tuple #[.bool true, .int .i64 0])) w') := fun w' G' ha hF => by
            have hrm : rm n x (.vo v) = true := decide_eq_true hz
            have e1 : aab n x v = true := by unfold aab; rw [hcut, hp, hrm]; simp
            have e2 : aac n x v = 0 := by unfold aac; rw [if_neg (by rw [hcut]; simp), if_neg (by rw [hrm]; simp)]
            have e4 : aax n x v = addX x (.vo v) := by unfold aax; rw [if_pos ⟨e1, he⟩]
            have h1 := HDd.out.chA ha hF
            refine ⟨by rw [e1, e2], ?_⟩
            have hgd := HG.out.add (.vo v) (acb_wf HG.out.aok.1 hp) hz
            rw [e4]
            exact ⟨G', G, addP n P x (.vo v), rs ++ [.vo v], h1.1, hgd, (HFL.out.trans (Fr.ofBelow (Below.refl _ _).drew)).trans h1.2⟩
          clear HDL HRL HDd HFL HH HG HNF HNB
          go_upto_region 10 with fail
          refine wp_region_held_drew (S := (fun wq => wq.cell? ⟨b, 0, none⟩ = some (ptr ab) ∧ wq.cell? ⟨w.heap.size, 0, none⟩ = some (.int .i64 v.s) ∧ wq.cell? ⟨w.heap.size, 1, none⟩ = some (.int .i64 v.b.i) ∧ wq.cell? ⟨w.heap.size, 2, none⟩ = some (.int .i64 v.b.t) ∧ wq.cell? ⟨w.heap.size, 3, none⟩ = some (.string v.v))) (by kernel_rfl) HSI.out (fun hHeld => ?_)
          refine wpAnyH_take (i := 0) (oi := ?p0g) (v := ?v0g) ?o0g (by kernel_rfl) (by kernel_rfl) (by kernel_rfl) ?q0g ?y0g hHeld ?r0g
          case o0g => simp only [List.getElem?_toArray, List.getElem?_cons_zero]; rfl
          case q0g => exact fun _ _ _ h => h
          case y0g => (refine Or.inl ⟨rfl, ?_⟩; intro wq hq; obtain ⟨z0, y0, y1, y2, y3⟩ := hq; go_simp; try with_reducible rfl)
          simp only [Act.put, List.setIfInBounds_toArray, List.set_cons_zero, List.set_cons_succ]
          refine wpAnyH_take (i := 1) (oi := ?p1g) (v := ?v1g) ?o1g (by kernel_rfl) (by kernel_rfl) (by kernel_rfl) ?q1g ?y1g hHeld ?r1g
          case o1g => simp only [List.getElem?_toArray, List.getElem?_cons_succ, List.getElem?_cons_zero]; rfl
          case q1g => exact fun _ _ _ h => h
          case y1g => (refine Or.inl ⟨rfl, ?_⟩; intro wq hq; obtain ⟨z0, y0, y1, y2, y3⟩ := hq; go_simp; try with_reducible rfl)
          simp only [Act.put, List.setIfInBounds_toArray, List.set_cons_zero, List.set_cons_succ]
          refine wpAnyH_take (i := 2) (oi := ?p2g) (v := ?v2g) ?o2g (by kernel_rfl) (by kernel_rfl) (by kernel_rfl) ?q2g ?y2g hHeld ?r2g
          case o2g => simp only [List.getElem?_toArray, List.getElem?_cons_succ, List.getElem?_cons_zero]; rfl
          case q2g => exact fun _ _ _ h => h
          case y2g => (refine Or.inl ⟨rfl, ?_⟩; intro wq hq; obtain ⟨z0, y0, y1, y2, y3⟩ := hq; go_simp; try with_reducible rfl)
          simp only [Act.put, List.setIfInBounds_toArray, List.set_cons_zero, List.set_cons_succ]
          refine wpAnyH_take (i := 3) (oi := ?p3g) (v := ?v3g) ?o3g (by kernel_rfl) (by kernel_rfl) (by kernel_rfl) ?q3g ?y3g hHeld ?r3g
          case o3g => simp only [List.getElem?_toArray, List.getElem?_cons_succ, List.getElem?_cons_zero]; rfl
          case q3g => exact fun _ _ _ h => h
          case y3g => (refine Or.inl ⟨rfl, ?_⟩; intro wq hq; obtain ⟨z0, y0, y1, y2, y3⟩ := hq; go_simp; try with_reducible rfl)
          simp only [Act.put, List.setIfInBounds_toArray, List.set_cons_zero, List.set_cons_succ]
          refine wpAnyH_take (i := 4) (oi := ?p4g) (v := ?v4g) ?o4g (by kernel_rfl) (by kernel_rfl) (by kernel_rfl) ?q4g ?y4g hHeld ?r4g
          case o4g => simp only [List.getElem?_toArray, List.getElem?_cons_succ, List.getElem?_cons_zero]; rfl
          case q4g => exact fun _ _ _ h => h
          case y4g => (refine Or.inl ⟨rfl, ?_⟩; intro wq hq; obtain ⟨z0, y0, y1, y2, y3⟩ := hq; go_simp; try with_reducible rfl)
          simp only [Act.put, List.setIfInBounds_toArray, List.set_cons_zero, List.set_cons_succ]
          refine wpAnyH_ready (rs := [5]) (by kernel_rfl) (by simp) ?_
          refine AllReadyH.cons (o := ?p5g) ?o5g ?s5g AllReadyH.nil
          case o5g => simp only [List.getElem?_toArray, List.getElem?_cons_succ, List.getElem?_cons_zero]; rfl
          intro K hK
          go_simp
          refine HCL.out.mono ?_
          rintro e v6 ⟨G6, rfl, a6, f6⟩
          have hS := HKS.out _ _ f6
          have HF := Hid_of (HFI.out _ _ a6 f6)
          clear a6 f6
          rw [hp]
          refine hK.out _ _ hS (fun hHeld => ?_)
          clear hK K
          refine wpAnyH_take (i := 6) (oi := ?p6g) (v := ?v6g) ?o6g (by kernel_rfl) (by kernel_rfl) (by kernel_rfl) ?q6g ?y6g hHeld ?r6g
          case o6g => simp only [List.getElem?_toArray, List.getElem?_cons_succ, List.getElem?_cons_zero]; rfl
          case q6g => exact fun _ _ _ h => h
          case y6g => (refine Or.inl ⟨rfl, ?_⟩; intro wq hq; obtain ⟨z0, y0, y1, y2, y3⟩ := hq; go_simp; try with_reducible rfl)
          simp only [Act.put, List.setIfInBounds_toArray, List.set_cons_zero, List.set_cons_succ]
          refine wpAnyH_take (i := 7) (oi := ?p7g) (v := ?v7g) ?o7g (by kernel_rfl) (by kernel_rfl) (by kernel_rfl) ?q7g ?y7g hHeld ?r7g
          case o7g => simp only [List.getElem?_toArray, List.getElem?_cons_succ, List.getElem?_cons_zero]; rfl
          case q7g => exact fun _ _ _ h => h
          case y7g => (refine Or.inl ⟨rfl, ?_⟩; intro wq hq; obtain ⟨z0, y0, y1, y2, y3⟩ := hq; go_simp; try with_reducible rfl)
          simp only [Act.put, List.setIfInBounds_toArray, List.set_cons_zero, List.set_cons_succ]
          refine wpAnyH_done (by kernel_rfl) ?_ _
          go_wp2
          go_ret2
          exact HF.out
        · obtain ⟨rfl, hb9⟩ := hno hz
          have HQ : Hid (AaO w0 w FA FD b ab db n x v (.returned (.tuple #[.bool false, .int .i64 5])) w9) := by
            have hrm : rm n x (.vo v) = false := decide_eq_false hz
            have e1 : aab n x v = false := by unfold aab; rw [he, hrm]; simp
            have e2 : aac n x v = 5 := by unfold aac; rw [if_neg (by rw [hcut]; simp), if_pos ⟨hp, he, hrm⟩]
            have e4 : aax n x v = x := by unfold aax; rw [if_neg (by rw [e1]; simp)]
            refine ⟨by rw [e1, e2], ?_⟩
            rw [e4]
            exact Chg.same HH.out HG.out (bel_up HB8.out hb9 (Nat.le_refl _))
          clear hy hno hb9 HB8 HR8 HH HG HNF HNB
          go_wp2
          go_ret2
          exact HQ.out

theorem trs_twice {a : S} (ho : Na.M.Ok a) (u : Int) : redo a (.tr (Na.M.trs a u).base) = Na.M.trs a u := by
  have h0 := ho.b0
  have h1 := ho.b1
  show Na.M.trs a (max a.base (min u 1024)) = _
  unfold Na.M.trs
  have e1 : min (max a.base (min u 1024)) 1024 = max a.base (min u 1024) := by omega
  rw [e1]
  congr 1
  · omega
  · unfold Na.M.vts
    apply List.filter_congr
    intro x hx
    have := ho.lo x hx
    by_cases hq : min u 1024 ≤ x.s
    · rw [decide_eq_true (by omega), decide_eq_true hq]
    · rw [decide_eq_false (by omega), decide_eq_false hq]
theorem trs_base {a : S} (ho : Na.M.Ok a) (u : Int) (h : (Na.M.trs a u).base = a.base) : Na.M.trs a u = a := by
  have h2 : max a.base (min u 1024) = a.base := h
  unfold Na.M.trs
  rw [h2, Na.M.vts_all (fun x hx => by have := ho.lo x hx; omega)]
theorem trs_wf {a : S} (ho : Na.M.Ok a) (u : Int) : Wf (.tr (Na.M.trs a u).base) := by
  have h0 := (Na.M.trs_ok ho u).b0
  have h1 := (Na.M.trs_ok ho u).b1
  exact ⟨by omega, by omega⟩
def TtO (w0 w : World) (FA FD : Nat → Prop) (b ab db n : Nat) (x : X) (u : Int) (e : Ending) (w' : World) : Prop :=
  e = .returned (.int .i64 (ttc n x u)) ∧ Chg w0 w FA FD b ab db n (ttx n x u) w'
set_option maxRecDepth 100000 in
set_option maxHeartbeats 2000000 in
theorem DU.trim (h : DU w0 w FA FD b ab db n P x) (hg : Gd n P x rs) (u : Int) : Calls Tryz.prog 26 #[ptr b, .int .i64 u] w (TtO w0 w FA FD b ab db n x u) := by
  cases hcut : x.cut with
  | true =>
    have hrf := h.refused
    rw [hcut] at hrf
    have HQ : Hid (TtO w0 w FA FD b ab db n x u (.returned (.int .i64 16)) w) := by
      have e2 : ttc n x u = 16 := by unfold ttc; rw [if_pos hcut]
      have e4 : ttx n x u = x := by unfold ttx; rw [if_neg (by rw [hcut]; simp)]
      refine ⟨by rw [e2], ?_⟩
      rw [e4]
      exact Chg.same h hg (Below.refl _ _)
    clear h hg
    go_enter Tryz.func26, Tryz.ntmps26
    go_wp2_with fail
    refine hrf.mono ?_
    rintro e w2 ⟨rfl, rfl⟩
    clear hrf
    go_wp2
    go_ret
    exact HQ.out
  | false =>
    have hrf := h.refused
    rw [hcut] at hrf
    have htr := h.trial hg.aok.2
    have HH := Hid_of h
    have HG := Hid_of hg
    have HT : Hid ((Na.M.trs (tri x.a) u).base = (Na.M.trs x.a u).base) := rfl
    clear h hg
    go_enter Tryz.func26, Tryz.ntmps26
    go_wp2_with fail
    refine hrf.mono ?_
    rintro e w2 ⟨rfl, rfl⟩
    clear hrf
    go_wp2_with fail
    refine htr.mono ?_
    rintro e w3 ⟨tb, F3, rfl, a3⟩
    have htm := a3.trim u
    clear htr a3
    go_wp2_with fail
    refine htm.mono ?_
    rintro e w4 ⟨F4, rfl, a4, _⟩
    have hb4 := a4.base
    have HA4 := Hid_of a4
    have hbb := (HH.out.keep a4.bel).base
    rw [HT.out] at hb4
    clear htm a4
    go_wp2_with fail
    refine hb4.mono ?_
    rintro e w5 ⟨rfl, hw5⟩
    obtain rfl := hw5.symm
    clear hb4 hw5
    go_wp2_with fail
    refine hbb.mono ?_
    rintro e w6 ⟨rfl, hw6⟩
    obtain rfl := hw6.symm
    clear hbb hw6
    by_cases he : (Na.M.trs x.a u).base = x.a.base
    · have HQ : Hid (TtO w0 w2 FA FD b ab db n x u (.returned (.int .i64 0)) w4) := by
        have e1 : ttb x u = true := decide_eq_true he
        have e2 : ttc n x u = 0 := by unfold ttc; rw [if_neg (by rw [hcut]; simp), if_neg (by rw [e1]; simp)]
        have e4 : ttx n x u = x := by unfold ttx; rw [if_neg (by rw [e1]; simp)]
        refine ⟨by rw [e2], ?_⟩
        rw [e4]
        exact Chg.same HH.out HG.out HA4.out.bel
      clear HH HG HA4 HT
      go_wp2
      go_ret
      exact HQ.out
    · have he' : ((Na.M.trs x.a u).base == x.a.base) = false := by rw [beq_eq_false_iff_ne]; exact he
      have hb4 := HA4.out.base
      rw [HT.out] at hb4
      have htr := fun W => trimRecord_any (Na.M.trs x.a u).base W
      have HTB : Hid (ttb x u = false) := decide_eq_false he
      go_wp2_with fail
      refine hb4.mono ?_
      rintro e w5 ⟨rfl, hw5⟩
      obtain rfl := hw5.symm
      clear hb4 hw5
      go_wp2_with fail
      refine (htr _).mono ?_
      rintro e w8 ⟨rfl, hb8⟩
      have HB8 := Hid_of (bel_up HA4.out.bel hb8 (Nat.le_refl _))
      have had := (HH.out.keep HB8.out).add HG.out (.tr (Na.M.trs x.a u).base) (trs_wf HG.out.aok.1 u)
      clear htr hb8 HA4
      go_wp2_with fail
      refine had.mono ?_
      rintro e w9 ⟨hy, hno⟩
      clear had
      by_cases hz : sec x.ep x.n (.tr (Na.M.trs x.a u).base) ≤ hf n - x.us
      · obtain ⟨G, rfl, hd9, hf9⟩ := hy hz
        obtain ⟨⟨c0, _⟩, _⟩ := row7 hd9.row
        have htm := hd9.a.trim u
        have HFI : Hid (∀ w' G', AS w0 w' G' ab (Na.M.trs x.a u) → Fr w9 FA w' G' → TtO w0 w2 FA FD b ab db n x u (.returned (.int .i64 0)) w') := fun w' G' ha hF => by
          have hrm : rm n x (.tr (Na.M.trs x.a u).base) = true := decide_eq_true hz
          have e2 : ttc n x u = 0 := by unfold ttc; rw [if_neg (by rw [hcut]; simp), if_neg (by rw [hrm]; simp)]
          have e4 : ttx n x u = addX x (.tr (Na.M.trs x.a u).base) := by unfold ttx; rw [if_pos ⟨hcut, HTB.out, hrm⟩]
          have h1 := hd9.chA ha hF
          have hgd := HG.out.add (.tr (Na.M.trs x.a u).base) (trs_wf HG.out.aok.1 u) hz
          refine ⟨by rw [e2], ?_⟩
          rw [e4]
          refine ⟨G', G, addP n P x (.tr (Na.M.trs x.a u).base), rs ++ [.tr (Na.M.trs x.a u).base], ?_, hgd, ((Fr.ofBelow HB8.out).trans hf9).trans h1.2⟩
          have e5 : addX x (.tr (Na.M.trs x.a u).base) = { x with n := x.n + 1, us := x.us + sec x.ep x.n (.tr (Na.M.trs x.a u).base), a := Na.M.trs x.a u } := by unfold addX; rw [trs_twice HG.out.aok.1]
          rw [e5]
          exact h1.1
        clear hy hno hd9 hf9 HB8 HH HG HT HTB
        go_wp2_with fail
        refine htm.mono ?_
        rintro e w10 ⟨G', rfl, a10, f10⟩
        have HF := Hid_of (HFI.out _ _ a10 f10)
        clear htm a10 f10 HFI c0
        go_wp2
        go_ret
        exact HF.out
      · obtain ⟨rfl, hb9⟩ := hno hz
        have HQ : Hid (TtO w0 w2 FA FD b ab db n x u (.returned (.int .i64 5)) w9) := by
          have hrm : rm n x (.tr (Na.M.trs x.a u).base) = false := decide_eq_false hz
          have e2 : ttc n x u = 5 := by unfold ttc; rw [if_neg (by rw [hcut]; simp), if_pos ⟨HTB.out, hrm⟩]
          have e4 : ttx n x u = x := by unfold ttx; rw [if_neg (by rw [hrm]; simp)]
          refine ⟨by rw [e2], ?_⟩
          rw [e4]
          exact Chg.same HH.out HG.out (bel_up HB8.out hb9 (Nat.le_refl _))
        clear hy hno hb9 HB8 HH HG HT HTB
        go_wp2
        go_ret
        exact HQ.out
end
end Go.Proofs.YtlnedgjikkhplaaGreat.Du
