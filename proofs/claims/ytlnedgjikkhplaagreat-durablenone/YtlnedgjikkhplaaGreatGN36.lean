/-
  A promise, on a device.
-/
import Derived.Test.YtlnedgjikkhplaaGreatGN35
namespace Go.Proofs.YtlnedgjikkhplaaGreat.Du
open Go.RowKit
set_option linter.unusedVariables false
set_option linter.unusedSimpArgs false
open Na (Fr AS XL vl bV vV Hid_of bel1 bel2 bel_up bel_row row2 row4 blk OwnL AtL)
open Na.M (E V S S0)

open Ns.M (ofL)
/-- Are two ballots one? -/
def eqE (y z : E) : Bool := decide (y.i = z.i) && decide (y.t = z.t)
theorem eqE_yes {y z : E} (h : eqE y z = true) : y = z := by
  unfold eqE at h
  simp at h
  exact E_ext h.1 h.2
theorem eqE_no {y z : E} (h : eqE y z = false) : ¬ (y.i = z.i ∧ y.t = z.t) := by
  unfold eqE at h
  simp at h
  rintro ⟨h1, h2⟩
  exact h h1 h2
/-- Is there room for a record? -/
def rm (n : Nat) (x : X) (r : R) : Bool := decide (sec x.ep x.n r ≤ hf n - x.us)
/-! a promise, a vote, a trim: whether they are; the code; what becomes -/
def ppb (n : Nat) (x : X) (y : E) (k : Int) : Bool := !x.cut && (Na.M.prb x.a y k && (eqE y x.a.p || rm n x (.pr y)))
def ppc (n : Nat) (x : X) (y : E) (k : Int) : Int := if x.cut = true then 16 else if Na.M.prb x.a y k = true ∧ eqE y x.a.p = false ∧ rm n x (.pr y) = false then 5 else 0
def ppx (n : Nat) (x : X) (y : E) (k : Int) : X := if ppb n x y k = true ∧ eqE y x.a.p = false then addX x (.pr y) else x
def ppl (n : Nat) (x : X) (y : E) (k : Int) : List V := if ppb n x y k = true then Na.M.vts x.a.l k else []
def aab (n : Nat) (x : X) (v : V) : Bool := !x.cut && (Na.M.acb x.a v && (hs x.a.l v || rm n x (.vo v)))
def aac (n : Nat) (x : X) (v : V) : Int := if x.cut = true then 16 else if Na.M.acb x.a v = true ∧ hs x.a.l v = false ∧ rm n x (.vo v) = false then 5 else 0
def aax (n : Nat) (x : X) (v : V) : X := if aab n x v = true ∧ hs x.a.l v = false then addX x (.vo v) else x
def ttb (x : X) (u : Int) : Bool := decide ((Na.M.trs x.a u).base = x.a.base)
def ttc (n : Nat) (x : X) (u : Int) : Int := if x.cut = true then 16 else if ttb x u = false ∧ rm n x (.tr (Na.M.trs x.a u).base) = false then 5 else 0
def ttx (n : Nat) (x : X) (u : Int) : X := if x.cut = false ∧ ttb x u = false ∧ rm n x (.tr (Na.M.trs x.a u).base) = true then addX x (.tr (Na.M.trs x.a u).base) else x
theorem no_blk {j : Nat} (h : blk none j) : False := by
  obtain ⟨_, _, e⟩ := h
  cases e
theorem vld_wf {y : E} (h : Na.M.vld y = true) : I64 y.i ∧ I64 y.t := by
  unfold Na.M.vld at h
  simp at h
  unfold I64
  omega
theorem redo_pr {a : S} {y : E} {k : Int} (h : Na.M.prb a y k = true) : redo a (.pr y) = Na.M.prs a y k := by
  have hm := Na.M.prb_may h
  show Na.M.prs a y a.base = _
  have hb : Na.M.prb a y a.base = true := by
    unfold Na.M.prb
    rw [hm]
    simp
  rw [Na.M.prs_yes hb, Na.M.prs_yes h]
theorem prs_same {a : S} {y : E} {k : Int} (h : Na.M.prb a y k = true) (e : eqE y a.p = true) : Na.M.prs a y k = a := by
  rw [Na.M.prs_yes h, eqE_yes e]
section
variable {w0 w w' : World} {FA FD FA' FD' : Nat → Prop} {b ab db n : Nat} {P P' : List Ns.M.Pl} {x x' : X} {rs : List R}
/-- What a change leaves: the device and the records are as x' says. -/
def Chg (w0 w : World) (FA FD : Nat → Prop) (b ab db n : Nat) (x' : X) (w' : World) : Prop := ∃ FA' FD' P' rs', DU w0 w' FA' FD' b ab db n P' x' ∧ Gd n P' x' rs' ∧ Fr w (fpd b FA FD) w' (fpd b FA' FD')
theorem Chg.same (h : DU w0 w FA FD b ab db n P x) (hg : Gd n P x rs) (hb : Below w.heap.size w w') : Chg w0 w FA FD b ab db n x w' := ⟨FA, FD, P, rs, h.keep hb, hg, Fr.ofBelow hb⟩
def PpO (w0 w : World) (FA FD : Nat → Prop) (b ab db n : Nat) (x : X) (y : E) (k : Int) (e : Ending) (w' : World) : Prop :=
  ∃ ad c, e = .returned (.tuple #[.slice ad (ppl n x y k).length c, .bool (ppb n x y k), .int .i64 (ppc n x y k)]) ∧ XL vl w' ad c (ppl n x y k) ∧ (∀ j, blk ad j → w.heap.size ≤ j ∧ j < w'.heap.size) ∧ Chg w0 w FA FD b ab db n (ppx n x y k) w'
set_option maxRecDepth 100000 in
set_option maxHeartbeats 2000000 in
theorem DU.promise (h : DU w0 w FA FD b ab db n P x) (hg : Gd n P x rs) (y : E) (k : Int) : Calls Tryz.prog 22 #[ptr b, bV y, .int .i64 k] w (PpO w0 w FA FD b ab db n x y k) := by
  cases hcut : x.cut with
  | true =>
    obtain ⟨W1, HW1⟩ : ∃ W1, Hid (w.alloc (.cells #[.int .i64 y.i, .int .i64 y.t] 36) = W1) := ⟨_, Hid_of rfl⟩
    have hb1 : Below w.heap.size w W1 := by rw [← HW1.out]; exact bel1 w _
    have hr1 : W1.heap[w.heap.size]? = some (.cells #[.int .i64 y.i, .int .i64 y.t] 36 (0, 0)) := by rw [← HW1.out]; exact heap_alloc_last w _
    have hd1 := h.keep hb1
    have hrf := hd1.refused
    rw [hcut] at hrf
    have HB1 := Hid_of hb1
    have HQ : Hid (∀ w', Below w.heap.size w w' → PpO w0 w FA FD b ab db n x y k (.returned (.tuple #[.slice none 0 0, .bool false, .int .i64 16])) w') := fun w' hb => by
      have e1 : ppb n x y k = false := by unfold ppb; rw [hcut]; rfl
      have e2 : ppc n x y k = 16 := by unfold ppc; rw [if_pos hcut]
      have e3 : ppl n x y k = [] := by unfold ppl; rw [e1]; rfl
      have e4 : ppx n x y k = x := by unfold ppx; rw [if_neg (by rw [e1]; simp)]
      refine ⟨none, 0, by rw [e1, e2, e3]; rfl, by rw [e3]; exact Na.XL.emp _, fun j hj => (no_blk hj).elim, ?_⟩
      rw [e4]
      exact Chg.same h hg hb
    clear h hg hb1 hr1 hd1
    go_enter Tryz.func22, Tryz.ntmps22
    go_upto_region 1 with fail
    rw [HW1.out]
    clear HW1
    go_wp2_with fail
    refine hrf.mono ?_
    rintro e w2 ⟨rfl, hw2⟩
    obtain rfl := hw2.symm
    clear hrf hw2
    go_wp2
    go_ret3
    exact HQ.out _ HB1.out
  | false =>
    cases hp : Na.M.prb x.a y k with
    | false =>
      obtain ⟨W1, HW1⟩ : ∃ W1, Hid (w.alloc (.cells #[.int .i64 y.i, .int .i64 y.t] 36) = W1) := ⟨_, Hid_of rfl⟩
      have hb1 : Below w.heap.size w W1 := by rw [← HW1.out]; exact bel1 w _
      have hr1 : W1.heap[w.heap.size]? = some (.cells #[.int .i64 y.i, .int .i64 y.t] 36 (0, 0)) := by rw [← HW1.out]; exact heap_alloc_last w _
      have hd1 := h.keep hb1
      have hrf := hd1.refused
      rw [hcut] at hrf
      have HTR : Hid (∀ w', Below W1.heap.size W1 w' → Calls Tryz.prog 56 #[ptr b] w' (TrO w' x.a)) := fun w' hb => (hd1.keep hb).trial hg.aok.2
      have HS : Hid (∀ w', Below W1.heap.size W1 w' → w'.cell? ⟨w.heap.size, 0, none⟩ = some (.int .i64 y.i) ∧ w'.cell? ⟨w.heap.size, 1, none⟩ = some (.int .i64 y.t)) := fun w' hb => (row2 (bel_row hr1 hb)).1
      have HR1 := Hid_of hr1
      have HB1 := Hid_of hb1
      have HQ : Hid (∀ w', Below w.heap.size w w' → PpO w0 w FA FD b ab db n x y k (.returned (.tuple #[.slice none 0 0, .bool false, .int .i64 0])) w') := fun w' hb => by
        have e1 : ppb n x y k = false := by unfold ppb; rw [hcut, hp]; rfl
        have e2 : ppc n x y k = 0 := by unfold ppc; rw [if_neg (by rw [hcut]; simp), if_neg (by rw [hp]; simp)]
        have e3 : ppl n x y k = [] := by unfold ppl; rw [e1]; rfl
        have e4 : ppx n x y k = x := by unfold ppx; rw [if_neg (by rw [e1]; simp)]
        refine ⟨none, 0, by rw [e1, e2, e3]; rfl, by rw [e3]; exact Na.XL.emp _, fun j hj => (no_blk hj).elim, ?_⟩
        rw [e4]
        exact Chg.same h hg hb
      clear h hg hb1 hr1 hd1
      go_enter Tryz.func22, Tryz.ntmps22
      go_upto_region 1 with fail
      rw [HW1.out]
      clear HW1
      go_wp2_with fail
      refine hrf.mono ?_
      rintro e w2 ⟨rfl, hw2⟩
      obtain rfl := hw2.symm
      clear hrf hw2
      go_upto_region 4 with fail
      refine wp_region_held_drew (S := fun wq => Below (W1).heap.size (W1) wq) (by kernel_rfl) (Below.drew (Below.refl _ _)) (fun hHeld => ?_)
      refine wpAnyH_take (i := 0) (oi := ?p0a) (v := ?v0a) ?o0a (by kernel_rfl) (by kernel_rfl) (by kernel_rfl) ?q0a ?y0a hHeld ?r0a
      case o0a => simp only [List.getElem?_toArray, List.getElem?_cons_zero]; rfl
      case q0a => exact fun _ _ _ h => h
      case y0a => (refine Or.inl ⟨rfl, ?_⟩; intro wq hq; obtain ⟨y0, y1⟩ := HS.out wq hq; go_simp; try with_reducible rfl)
      simp only [Act.put, List.setIfInBounds_toArray, List.set_cons_zero, List.set_cons_succ]
      refine wpAnyH_take (i := 2) (oi := ?p2a) (v := ?v2a) ?o2a (by kernel_rfl) (by kernel_rfl) (by kernel_rfl) ?q2a ?y2a hHeld ?r2a
      case o2a => simp only [List.getElem?_toArray, List.getElem?_cons_succ, List.getElem?_cons_zero]; rfl
      case q2a => exact fun _ _ _ h => h
      case y2a => (refine Or.inl ⟨rfl, ?_⟩; intro wq hq; obtain ⟨y0, y1⟩ := HS.out wq hq; go_simp; try with_reducible rfl)
      simp only [Act.put, List.setIfInBounds_toArray, List.set_cons_zero, List.set_cons_succ]
      refine wpAnyH_take (i := 3) (oi := ?p3a) (v := ?v3a) ?o3a (by kernel_rfl) (by kernel_rfl) (by kernel_rfl) ?q3a ?y3a hHeld ?r3a
      case o3a => simp only [List.getElem?_toArray, List.getElem?_cons_succ, List.getElem?_cons_zero]; rfl
      case q3a => exact fun _ _ _ h => h
      case y3a => (refine Or.inl ⟨rfl, ?_⟩; intro wq hq; obtain ⟨y0, y1⟩ := HS.out wq hq; go_simp; try with_reducible rfl)
      simp only [Act.put, List.setIfInBounds_toArray, List.set_cons_zero, List.set_cons_succ]
      refine wpAnyH_ready (rs := [1]) (by kernel_rfl) (by simp) ?_
      refine AllReadyH.cons (o := ?p1a) ?o1a ?s1a AllReadyH.nil
      case o1a => simp only [List.getElem?_toArray, List.getElem?_cons_succ, List.getElem?_cons_zero]; rfl
      intro K hK
      go_simp
      have HH0 := Hid_of hHeld
      refine (HTR.out _ hHeld).mono ?_
      rintro e v1 ⟨tb, Ft, rfl, a1⟩
      have B1 : Below W1.heap.size W1 v1 := hHeld.trans (a1.bel.mono hHeld.size)
      have HA1 := Hid_of a1
      clear a1
      refine hK.out _ _ B1 (fun hHeld => ?_)
      clear hK K
      refine wpAnyH_ready (rs := [4]) (by kernel_rfl) (by simp) ?_
      refine AllReadyH.cons (o := ?p4a) ?o4a ?s4a AllReadyH.nil
      case o4a => simp only [List.getElem?_toArray, List.getElem?_cons_succ, List.getElem?_cons_zero]; rfl
      intro K hK
      go_simp
      refine (HA1.out.promise y k).mono ?_
      rintro e v4 ⟨ad4, c4, rfl, _, _, a4, _⟩
      have B4 : Below W1.heap.size W1 v4 := HH0.out.trans (a4.bel.mono HH0.out.size)
      clear a4 HA1 HH0
      rw [tri_prb, hp]
      refine hK.out _ _ B4 (fun hHeld => ?_)
      clear hK K
      refine wpAnyH_take (i := 5) (oi := ?p5a) (v := ?v5a) ?o5a (by kernel_rfl) (by kernel_rfl) (by kernel_rfl) ?q5a ?y5a hHeld ?r5a
      case o5a => simp only [List.getElem?_toArray, List.getElem?_cons_succ, List.getElem?_cons_zero]; rfl
      case q5a => exact fun _ _ _ h => h
      case y5a => (refine Or.inl ⟨rfl, ?_⟩; intro wq hq; obtain ⟨y0, y1⟩ := HS.out wq hq; go_simp; try with_reducible rfl)
      simp only [Act.put, List.setIfInBounds_toArray, List.set_cons_zero, List.set_cons_succ]
      refine wpAnyH_take (i := 6) (oi := ?p6a) (v := ?v6a) ?o6a (by kernel_rfl) (by kernel_rfl) (by kernel_rfl) ?q6a ?y6a hHeld ?r6a
      case o6a => simp only [List.getElem?_toArray, List.getElem?_cons_succ, List.getElem?_cons_zero]; rfl
      case q6a => exact fun _ _ _ h => h
      case y6a => (refine Or.inl ⟨rfl, ?_⟩; intro wq hq; obtain ⟨y0, y1⟩ := HS.out wq hq; go_simp; try with_reducible rfl)
      simp only [Act.put, List.setIfInBounds_toArray, List.set_cons_zero, List.set_cons_succ]
      refine wpAnyH_take (i := 7) (oi := ?p7a) (v := ?v7a) ?o7a (by kernel_rfl) (by kernel_rfl) (by kernel_rfl) ?q7a ?y7a hHeld ?r7a
      case o7a => simp only [List.getElem?_toArray, List.getElem?_cons_succ, List.getElem?_cons_zero]; rfl
      case q7a => exact fun _ _ _ h => h
      case y7a => (refine Or.inl ⟨rfl, ?_⟩; intro wq hq; obtain ⟨y0, y1⟩ := HS.out wq hq; go_simp; try with_reducible rfl)
      simp only [Act.put, List.setIfInBounds_toArray, List.set_cons_zero, List.set_cons_succ]
      refine wpAnyH_take (i := 8) (oi := ?p8a) (v := ?v8a) ?o8a (by kernel_rfl) (by kernel_rfl) (by kernel_rfl) ?q8a ?y8a hHeld ?r8a
      case o8a => simp only [List.getElem?_toArray, List.getElem?_cons_succ, List.getElem?_cons_zero]; rfl
      case q8a => exact fun _ _ _ h => h
      case y8a => (refine Or.inl ⟨rfl, ?_⟩; intro wq hq; obtain ⟨y0, y1⟩ := HS.out wq hq; go_simp; try with_reducible rfl)
      simp only [Act.put, List.setIfInBounds_toArray, List.set_cons_zero, List.set_cons_succ]
      refine wpAnyH_take (i := 9) (oi := ?p9a) (v := ?v9a) ?o9a (by kernel_rfl) (by kernel_rfl) (by kernel_rfl) ?q9a ?y9a hHeld ?r9a
      case o9a => simp only [List.getElem?_toArray, List.getElem?_cons_succ, List.getElem?_cons_zero]; rfl
      case q9a => exact fun _ _ _ h => h
      case y9a => (refine Or.inl ⟨rfl, ?_⟩; intro wq hq; obtain ⟨y0, y1⟩ := HS.out wq hq; go_simp; try with_reducible rfl)
      simp only [Act.put, List.setIfInBounds_toArray, List.set_cons_zero, List.set_cons_succ]
      refine wpAnyH_done (by kernel_rfl) ?_ _
      obtain ⟨w4, hw4⟩ : ∃ w4, v4 = w4 := ⟨_, rfl⟩
      subst hw4
      have HB4 := Hid_of (bel_up HB1.out hHeld (Nat.le_refl _))
      have HR4 := Hid_of (bel_row HR1.out hHeld)
      clear hHeld HS HTR HR1 HB1
      go_wp2
      go_ret3
      exact HQ.out _ HB4.out
    | true =>
      cases he : eqE y x.a.p with
      | true =>
        obtain ⟨W1, HW1⟩ : ∃ W1, Hid (w.alloc (.cells #[.int .i64 y.i, .int .i64 y.t] 36) = W1) := ⟨_, Hid_of rfl⟩
        have hb1 : Below w.heap.size w W1 := by rw [← HW1.out]; exact bel1 w _
        have hr1 : W1.heap[w.heap.size]? = some (.cells #[.int .i64 y.i, .int .i64 y.t] 36 (0, 0)) := by rw [← HW1.out]; exact heap_alloc_last w _
        have hd1 := h.keep hb1
        have hrf := hd1.refused
        rw [hcut] at hrf
        have HTR : Hid (∀ w', Below W1.heap.size W1 w' → Calls Tryz.prog 56 #[ptr b] w' (TrO w' x.a)) := fun w' hb => (hd1.keep hb).trial hg.aok.2
        have HS : Hid (∀ w', Below W1.heap.size W1 w' → w'.cell? ⟨w.heap.size, 0, none⟩ = some (.int .i64 y.i) ∧ w'.cell? ⟨w.heap.size, 1, none⟩ = some (.int .i64 y.t)) := fun w' hb => (row2 (bel_row hr1 hb)).1
        have HR1 := Hid_of hr1
        have HB1 := Hid_of hb1
        have HH := Hid_of h
        have HG := Hid_of hg
        have HEq := Hid_of (eqE_yes he)
        have HNF : Hid (¬ FA w.heap.size) := fun e => by have := (h.a.mine _ e).2; omega
        clear h hg hb1 hr1 hd1
        go_enter Tryz.func22, Tryz.ntmps22
        go_upto_region 1 with fail
        rw [HW1.out]
        clear HW1
        go_wp2_with fail
        refine hrf.mono ?_
        rintro e w2 ⟨rfl, hw2⟩
        obtain rfl := hw2.symm
        clear hrf hw2
        go_upto_region 4 with fail
        refine wp_region_held_drew (S := fun wq => Below (W1).heap.size (W1) wq) (by kernel_rfl) (Below.drew (Below.refl _ _)) (fun hHeld => ?_)
        refine wpAnyH_take (i := 0) (oi := ?p0d) (v := ?v0d) ?o0d (by kernel_rfl) (by kernel_rfl) (by kernel_rfl) ?q0d ?y0d hHeld ?r0d
        case o0d => simp only [List.getElem?_toArray, List.getElem?_cons_zero]; rfl
        case q0d => exact fun _ _ _ h => h
        case y0d => (refine Or.inl ⟨rfl, ?_⟩; intro wq hq; obtain ⟨y0, y1⟩ := HS.out wq hq; go_simp; try with_reducible rfl)
        simp only [Act.put, List.setIfInBounds_toArray, List.set_cons_zero, List.set_cons_succ]
        refine wpAnyH_take (i := 2) (oi := ?p2d) (v := ?v2d) ?o2d (by kernel_rfl) (by kernel_rfl) (by kernel_rfl) ?q2d ?y2d hHeld ?r2d
        case o2d => simp only [List.getElem?_toArray, List.getElem?_cons_succ, List.getElem?_cons_zero]; rfl
        case q2d => exact fun _ _ _ h => h
        case y2d => (refine Or.inl ⟨rfl, ?_⟩; intro wq hq; obtain ⟨y0, y1⟩ := HS.out wq hq; go_simp; try with_reducible rfl)
        simp only [Act.put, List.setIfInBounds_toArray, List.set_cons_zero, List.set_cons_succ]
        refine wpAnyH_take (i := 3) (oi := ?p3d) (v := ?v3d) ?o3d (by kernel_rfl) (by kernel_rfl) (by kernel_rfl) ?q3d ?y3d hHeld ?r3d
        case o3d => simp only [List.getElem?_toArray, List.getElem?_cons_succ, List.getElem?_cons_zero]; rfl
        case q3d => exact fun _ _ _ h => h
        case y3d => (refine Or.inl ⟨rfl, ?_⟩; intro wq hq; obtain ⟨y0, y1⟩ := HS.out wq hq; go_simp; try with_reducible rfl)
        simp only [Act.put, List.setIfInBounds_toArray, List.set_cons_zero, List.set_cons_succ]
        refine wpAnyH_ready (rs := [1]) (by kernel_rfl) (by simp) ?_
        refine AllReadyH.cons (o := ?p1d) ?o1d ?s1d AllReadyH.nil
        case o1d => simp only [List.getElem?_toArray, List.getElem?_cons_succ, List.getElem?_cons_zero]; rfl
        intro K hK
        go_simp
        have HH0 := Hid_of hHeld
        refine (HTR.out _ hHeld).mono ?_
        rintro e v1 ⟨tb, Ft, rfl, a1⟩
        have B1 : Below W1.heap.size W1 v1 := hHeld.trans (a1.bel.mono hHeld.size)
        have HA1 := Hid_of a1
        clear a1
        refine hK.out _ _ B1 (fun hHeld => ?_)
        clear hK K
        refine wpAnyH_ready (rs := [4]) (by kernel_rfl) (by simp) ?_
        refine AllReadyH.cons (o := ?p4d) ?o4d ?s4d AllReadyH.nil
        case o4d => simp only [List.getElem?_toArray, List.getElem?_cons_succ, List.getElem?_cons_zero]; rfl
        intro K hK
        go_simp
        refine (HA1.out.promise y k).mono ?_
        rintro e v4 ⟨ad4, c4, rfl, _, _, a4, _⟩
        have B4 : Below W1.heap.size W1 v4 := HH0.out.trans (a4.bel.mono HH0.out.size)
        clear a4 HA1 HH0
        rw [tri_prb, hp]
        refine hK.out _ _ B4 (fun hHeld => ?_)
        clear hK K
        refine wpAnyH_take (i := 5) (oi := ?p5d) (v := ?v5d) ?o5d (by kernel_rfl) (by kernel_rfl) (by kernel_rfl) ?q5d ?y5d hHeld ?r5d
        case o5d => simp only [List.getElem?_toArray, List.getElem?_cons_succ, List.getElem?_cons_zero]; rfl
        case q5d => exact fun _ _ _ h => h
        case y5d => (refine Or.inl ⟨rfl, ?_⟩; intro wq hq; obtain ⟨y0, y1⟩ := HS.out wq hq; go_simp; try with_reducible rfl)
        simp only [Act.put, List.setIfInBounds_toArray, List.set_cons_zero, List.set_cons_succ]
        refine wpAnyH_take (i := 6) (oi := ?p6d) (v := ?v6d) ?o6d (by kernel_rfl) (by kernel_rfl) (by kernel_rfl) ?q6d ?y6d hHeld ?r6d
        case o6d => simp only [List.getElem?_toArray, List.getElem?_cons_succ, List.getElem?_cons_zero]; rfl
        case q6d => exact fun _ _ _ h => h
        case y6d => (refine Or.inl ⟨rfl, ?_⟩; intro wq hq; obtain ⟨y0, y1⟩ := HS.out wq hq; go_simp; try with_reducible rfl)
        simp only [Act.put, List.setIfInBounds_toArray, List.set_cons_zero, List.set_cons_succ]
        refine wpAnyH_take (i := 7) (oi := ?p7d) (v := ?v7d) ?o7d (by kernel_rfl) (by kernel_rfl) (by kernel_rfl) ?q7d ?y7d hHeld ?r7d
        case o7d => simp only [List.getElem?_toArray, List.getElem?_cons_succ, List.getElem?_cons_zero]; rfl
        case q7d => exact fun _ _ _ h => h
        case y7d => (refine Or.inl ⟨rfl, ?_⟩; intro wq hq; obtain ⟨y0, y1⟩ := HS.out wq hq; go_simp; try with_reducible rfl)
        simp only [Act.put, List.setIfInBounds_toArray, List.set_cons_zero, List.set_cons_succ]
        refine wpAnyH_take (i := 8) (oi := ?p8d) (v := ?v8d) ?o8d (by kernel_rfl) (by kernel_rfl) (by kernel_rfl) ?q8d ?y8d hHeld ?r8d
        case o8d => simp only [List.getElem?_toArray, List.getElem?_cons_succ, List.getElem?_cons_zero]; rfl
        case q8d => exact fun _ _ _ h => h
        case y8d => (refine Or.inl ⟨rfl, ?_⟩; intro wq hq; obtain ⟨y0, y1⟩ := HS.out wq hq; go_simp; try with_reducible rfl)
        simp only [Act.put, List.setIfInBounds_toArray, List.set_cons_zero, List.set_cons_succ]
        refine wpAnyH_take (i := 9) (oi := ?p9d) (v := ?v9d) ?o9d (by kernel_rfl) (by kernel_rfl) (by kernel_rfl) ?q9d ?y9d hHeld ?r9d
        case o9d => simp only [List.getElem?_toArray, List.getElem?_cons_succ, List.getElem?_cons_zero]; rfl
        case q9d => exact fun _ _ _ h => h
        case y9d => (refine Or.inl ⟨rfl, ?_⟩; intro wq hq; obtain ⟨y0, y1⟩ := HS.out wq hq; go_simp; try with_reducible rfl)
        simp only [Act.put, List.setIfInBounds_toArray, List.set_cons_zero, List.set_cons_succ]
        refine wpAnyH_done (by kernel_rfl) ?_ _
        obtain ⟨w4, hw4⟩ : ∃ w4, v4 = w4 := ⟨_, rfl⟩
        subst hw4
        have HB4 := Hid_of (bel_up HB1.out hHeld (Nat.le_refl _))
        have HR4 := Hid_of (bel_row HR1.out hHeld)
        clear hHeld HS HTR HR1 HB1
        have HD4 := Hid_of (HH.out.keep HB4.out)
        have HPM : Hid (∀ w', Below v4.heap.size v4 w' → Calls Tryz.prog 16 #[ptr b] w' fun e w'' => e = .returned (bV x.a.p) ∧ Below w'.heap.size w' w'') := fun w' hb => (HD4.out.keep hb).promised
        have HS : Hid (∀ w', Below v4.heap.size v4 w' → w'.cell? ⟨w.heap.size, 0, none⟩ = some (.int .i64 y.i) ∧ w'.cell? ⟨w.heap.size, 1, none⟩ = some (.int .i64 y.t)) := fun w' hb => (row2 (bel_row HR4.out hb)).1
        go_upto_region 7 with fail
        refine wp_region_held_drew (S := fun wq => Below (v4).heap.size (v4) wq) (by kernel_rfl) (Below.drew (Below.refl _ _)) (fun hHeld => ?_)
        refine wpAnyH_take (i := 0) (oi := ?p0b) (v := ?v0b) ?o0b (by kernel_rfl) (by kernel_rfl) (by kernel_rfl) ?q0b ?y0b hHeld ?r0b
        case o0b => simp only [List.getElem?_toArray, List.getElem?_cons_zero]; rfl
        case q0b => exact fun _ _ _ h => h
        case y0b => (refine Or.inl ⟨rfl, ?_⟩; intro wq hq; obtain ⟨y0, y1⟩ := HS.out wq hq; go_simp; try with_reducible rfl)
        simp only [Act.put, List.setIfInBounds_toArray, List.set_cons_zero, List.set_cons_succ]
        refine wpAnyH_take (i := 1) (oi := ?p1b) (v := ?v1b) ?o1b (by kernel_rfl) (by kernel_rfl) (by kernel_rfl) ?q1b ?y1b hHeld ?r1b
        case o1b => simp only [List.getElem?_toArray, List.getElem?_cons_succ, List.getElem?_cons_zero]; rfl
        case q1b => exact fun _ _ _ h => h
        case y1b => (refine Or.inl ⟨rfl, ?_⟩; intro wq hq; obtain ⟨y0, y1⟩ := HS.out wq hq; go_simp; try with_reducible rfl)
        simp only [Act.put, List.setIfInBounds_toArray, List.set_cons_zero, List.set_cons_succ]
        refine wpAnyH_ready (rs := [2]) (by kernel_rfl) (by simp) ?_
        refine AllReadyH.cons (o := ?p2b) ?o2b ?s2b AllReadyH.nil
        case o2b => simp only [List.getElem?_toArray, List.getElem?_cons_succ, List.getElem?_cons_zero]; rfl
        intro K hK
        go_simp
        refine (HPM.out _ hHeld).mono ?_
        rintro e v2 ⟨rfl, hb2⟩
        have B2 : Below v4.heap.size v4 v2 := hHeld.trans (hb2.mono hHeld.size)
        clear hb2
        refine hK.out _ _ B2 (fun hHeld => ?_)
        clear hK K
        refine wpAnyH_take (i := 3) (oi := ?p3b) (v := .bool false) ?o3b (by kernel_rfl) (by kernel_rfl) (by kernel_rfl) ?q3b ?y3b hHeld ?r3b
        case o3b => simp only [List.getElem?_toArray, List.getElem?_cons_succ, List.getElem?_cons_zero]; rfl
        case q3b => exact fun _ _ _ h => h
        case y3b => (refine Or.inl ⟨rfl, ?_⟩; intro wq hq; obtain ⟨y0, y1⟩ := HS.out wq hq; go_simp; have hEq := HEq.out; first | (with_reducible rfl) | (simp [hEq]) | (by_cases q1 : y.i = x.a.p.i <;> by_cases q2 : y.t = x.a.p.t <;> simp_all))
        simp only [Act.put, List.setIfInBounds_toArray, List.set_cons_zero, List.set_cons_succ]
        refine wpAnyH_done (by kernel_rfl) ?_ _
        have HB7 := Hid_of (bel_up HB4.out hHeld (Nat.le_refl _))
        have HR7 := Hid_of (bel_row HR4.out hHeld)
        clear hHeld HS HPM HD4 HB4 HR4
        have HDL := Hid_of (HH.out.keep HB7.out)
        have HRL := HR7
        have HDd : Hid (DU w0 v2.drew FA FD b ab db n P x) := HDL.out.keep (Below.refl _ _).drew
        have HSI : Hid (v2.drew.cell? ⟨b, 0, none⟩ = some (ptr ab) ∧ v2.drew.cell? ⟨w.heap.size, 0, none⟩ = some (.int .i64 y.i) ∧ v2.drew.cell? ⟨w.heap.size, 1, none⟩ = some (.int .i64 y.t)) := ⟨(row7 HDL.out.row).1.1, (row2 HRL.out).1⟩
        have HKS : Hid (∀ w' G, Fr v2.drew FA w' G → w'.cell? ⟨b, 0, none⟩ = some (ptr ab) ∧ w'.cell? ⟨w.heap.size, 0, none⟩ = some (.int .i64 y.i) ∧ w'.cell? ⟨w.heap.size, 1, none⟩ = some (.int .i64 y.t)) := fun w' G hF =>
          ⟨(row7 ((hF.block b HDL.out.lt HDL.out.na).trans HDL.out.row)).1.1, (row2 ((hF.block w.heap.size (Array.getElem?_eq_some_iff.1 HRL.out).1 HNF.out).trans HRL.out)).1⟩
        have HCL := Hid_of (HDd.out.a.promise y k)
        have HFI : Hid (∀ w' ad c, XL vl w' ad c (Na.M.prl x.a y k) → (∀ j, blk ad j → v2.drew.heap.size ≤ j ∧ j < w'.heap.size) → AS w0 w' FA ab (Na.M.prs x.a y k) → Fr v2.drew FA w' FA → PpO w0 w FA FD b ab db n x y k (.returned (.tuple #[.slice ad (Na.M.prl x.a y k).length c, .bool true, .int .i64 0])) w') := fun w' ad c hx hn ha hF => by
          have e1 : ppb n x y k = true := by unfold ppb; rw [hcut, hp, he]; rfl
          have e2 : ppc n x y k = 0 := by unfold ppc; rw [if_neg (by rw [hcut]; simp), if_neg (by rw [he]; simp)]
          have e3 : ppl n x y k = Na.M.prl x.a y k := by unfold ppl Na.M.prl; rw [e1, hp]
          have e4 : ppx n x y k = x := by unfold ppx; rw [if_neg (by rw [he]; simp)]
          have h1 := HDd.out.chA ha hF
          rw [prs_same hp he] at h1
          have hsz : w.heap.size ≤ v2.heap.size := HB7.out.size
          refine ⟨ad, c, by rw [e1, e2, e3], by rw [e3]; exact hx, fun j hj => ⟨Nat.le_trans hsz (hn j hj).1, (hn j hj).2⟩, ?_⟩
          rw [e4]
          exact ⟨FA, FD, P, rs, h1.1, HG.out, (Fr.ofBelow (bel_up HB7.out (Below.refl _ _).drew (Nat.le_refl _))).trans h1.2⟩
        clear HDL HRL HDd HR7 HB7 HH HG HNF
        go_upto_region 11 with fail
        refine wp_region_held_drew (S := (fun wq => wq.cell? ⟨b, 0, none⟩ = some (ptr ab) ∧ wq.cell? ⟨w.heap.size, 0, none⟩ = some (.int .i64 y.i) ∧ wq.cell? ⟨w.heap.size, 1, none⟩ = some (.int .i64 y.t))) (by kernel_rfl) HSI.out (fun hHeld => ?_)
        refine wpAnyH_take (i := 0) (oi := ?p0c) (v := ?v0c) ?o0c (by kernel_rfl) (by kernel_rfl) (by kernel_rfl) ?q0c ?y0c hHeld ?r0c
        case o0c => simp only [List.getElem?_toArray, List.getElem?_cons_zero]; rfl
        case q0c => exact fun _ _ _ h => h
        case y0c => (refine Or.inl ⟨rfl, ?_⟩; intro wq hq; obtain ⟨z0, y0, y1⟩ := hq; go_simp; try with_reducible rfl)
        simp only [Act.put, List.setIfInBounds_toArray, List.set_cons_zero, List.set_cons_succ]
        refine wpAnyH_take (i := 1) (oi := ?p1c) (v := ?v1c) ?o1c (by kernel_rfl) (by kernel_rfl) (by kernel_rfl) ?q1c ?y1c hHeld ?r1c
        case o1c => simp only [List.getElem?_toArray, List.getElem?_cons_succ, List.getElem?_cons_zero]; rfl
        case q1c => exact fun _ _ _ h => h
        case y1c => (refine Or.inl ⟨rfl, ?_⟩; intro wq hq; obtain ⟨z0, y0, y1⟩ := hq; go_simp; try with_reducible rfl)
        simp only [Act.put, List.setIfInBounds_toArray, List.set_cons_zero, List.set_cons_succ]
        refine wpAnyH_take (i := 2) (oi := ?p2c) (v := ?v2c) ?o2c (by kernel_rfl) (by kernel_rfl) (by kernel_rfl) ?q2c ?y2c hHeld ?r2c
        case o2c => simp only [List.getElem?_toArray, List.getElem?_cons_succ, List.getElem?_cons_zero]; rfl
        case q2c => exact fun _ _ _ h => h
        case y2c => (refine Or.inl ⟨rfl, ?_⟩; intro wq hq; obtain ⟨z0, y0, y1⟩ := hq; go_simp; try with_reducible rfl)
        simp only [Act.put, List.setIfInBounds_toArray, List.set_cons_zero, List.set_cons_succ]
        refine wpAnyH_take (i := 3) (oi := ?p3c) (v := ?v3c) ?o3c (by kernel_rfl) (by kernel_rfl) (by kernel_rfl) ?q3c ?y3c hHeld ?r3c
        case o3c => simp only [List.getElem?_toArray, List.getElem?_cons_succ, List.getElem?_cons_zero]; rfl
        case q3c => exact fun _ _ _ h => h
        case y3c => (refine Or.inl ⟨rfl, ?_⟩; intro wq hq; obtain ⟨z0, y0, y1⟩ := hq; go_simp; try with_reducible rfl)
        simp only [Act.put, List.setIfInBounds_toArray, List.set_cons_zero, List.set_cons_succ]
        refine wpAnyH_take (i := 4) (oi := ?p4c) (v := ?v4c) ?o4c (by kernel_rfl) (by kernel_rfl) (by kernel_rfl) ?q4c ?y4c hHeld ?r4c
        case o4c => simp only [List.getElem?_toArray, List.getElem?_cons_succ, List.getElem?_cons_zero]; rfl
        case q4c => exact fun _ _ _ h => h
        case y4c => (refine Or.inl ⟨rfl, ?_⟩; intro wq hq; obtain ⟨z0, y0, y1⟩ := hq; go_simp; try with_reducible rfl)
        simp only [Act.put, List.setIfInBounds_toArray, List.set_cons_zero, List.set_cons_succ]
        refine wpAnyH_take (i := 5) (oi := ?p5c) (v := ?v5c) ?o5c (by kernel_rfl) (by kernel_rfl) (by kernel_rfl) ?q5c ?y5c hHeld ?r5c
        case o5c => simp only [List.getElem?_toArray, List.getElem?_cons_succ, List.getElem?_cons_zero]; rfl
        case q5c => exact fun _ _ _ h => h
        case y5c => (refine Or.inl ⟨rfl, ?_⟩; intro wq hq; obtain ⟨z0, y0, y1⟩ := hq; go_simp; try with_reducible rfl)
        simp only [Act.put, List.setIfInBounds_toArray, List.set_cons_zero, List.set_cons_succ]
        refine wpAnyH_ready (rs := [6]) (by kernel_rfl) (by simp) ?_
        refine AllReadyH.cons (o := ?p6c) ?o6c ?s6c AllReadyH.nil
        case o6c => simp only [List.getElem?_toArray, List.getElem?_cons_succ, List.getElem?_cons_zero]; rfl
        intro K hK
        go_simp
        refine HCL.out.mono ?_
        rintro e v6 ⟨ad6, c6, rfl, hx6, hn6, a6, f6⟩
        have hS := HKS.out _ _ f6
        have HF := Hid_of (HFI.out _ _ _ hx6 hn6 a6 f6)
        clear hx6 hn6 a6 f6
        refine hK.out _ _ hS (fun hHeld => ?_)
        clear hK K
        refine wpAnyH_take (i := 7) (oi := ?p7c) (v := ?v7c) ?o7c (by kernel_rfl) (by kernel_rfl) (by kernel_rfl) ?q7c ?y7c hHeld ?r7c
        case o7c => simp only [List.getElem?_toArray, List.getElem?_cons_succ, List.getElem?_cons_zero]; rfl
        case q7c => exact fun _ _ _ h => h
        case y7c => (refine Or.inl ⟨rfl, ?_⟩; intro wq hq; obtain ⟨z0, y0, y1⟩ := hq; go_simp; try with_reducible rfl)
        simp only [Act.put, List.setIfInBounds_toArray, List.set_cons_zero, List.set_cons_succ]
        refine wpAnyH_take (i := 8) (oi := ?p8c) (v := ?v8c) ?o8c (by kernel_rfl) (by kernel_rfl) (by kernel_rfl) ?q8c ?y8c hHeld ?r8c
        case o8c => simp only [List.getElem?_toArray, List.getElem?_cons_succ, List.getElem?_cons_zero]; rfl
        case q8c => exact fun _ _ _ h => h
        case y8c => (refine Or.inl ⟨rfl, ?_⟩; intro wq hq; obtain ⟨z0, y0, y1⟩ := hq; go_simp; try with_reducible rfl)
        simp only [Act.put, List.setIfInBounds_toArray, List.set_cons_zero, List.set_cons_succ]
        refine wpAnyH_take (i := 9) (oi := ?p9c) (v := ?v9c) ?o9c (by kernel_rfl) (by kernel_rfl) (by kernel_rfl) ?q9c ?y9c hHeld ?r9c
        case o9c => simp only [List.getElem?_toArray, List.getElem?_cons_succ, List.getElem?_cons_zero]; rfl
        case q9c => exact fun _ _ _ h => h
        case y9c => (refine Or.inl ⟨rfl, ?_⟩; intro wq hq; obtain ⟨z0, y0, y1⟩ := hq; go_simp; try with_reducible rfl)
        simp only [Act.put, List.setIfInBounds_toArray, List.set_cons_zero, List.set_cons_succ]
        refine wpAnyH_take (i := 10) (oi := ?p10c) (v := ?v10c) ?o10c (by kernel_rfl) (by kernel_rfl) (by kernel_rfl) ?q10c ?y10c hHeld ?r10c
        case o10c => simp only [List.getElem?_toArray, List.getElem?_cons_succ, List.getElem?_cons_zero]; rfl
        case q10c => exact fun _ _ _ h => h
        case y10c => (refine Or.inl ⟨rfl, ?_⟩; intro wq hq; obtain ⟨z0, y0, y1⟩ := hq; go_simp; try with_reducible rfl)
        simp only [Act.put, List.setIfInBounds_toArray, List.set_cons_zero, List.set_cons_succ]
        refine wpAnyH_take (i := 11) (oi := ?p11c) (v := ?v11c) ?o11c (by kernel_rfl) (by kernel_rfl) (by kernel_rfl) ?q11c ?y11c hHeld ?r11c
        case o11c => simp only [List.getElem?_toArray, List.getElem?_cons_succ, List.getElem?_cons_zero]; rfl
        case q11c => exact fun _ _ _ h => h
        case y11c => (refine Or.inl ⟨rfl, ?_⟩; intro wq hq; obtain ⟨z0, y0, y1⟩ := hq; go_simp; try with_reducible rfl)
        simp only [Act.put, List.setIfInBounds_toArray, List.set_cons_zero, List.set_cons_succ]
        refine wpAnyH_done (by kernel_rfl) ?_ _
        go_wp2
        go_ret3
        exact HF.out
      | false =>
        obtain ⟨W1, HW1⟩ : ∃ W1, Hid (w.alloc (.cells #[.int .i64 y.i, .int .i64 y.t] 36) = W1) := ⟨_, Hid_of rfl⟩
        have hb1 : Below w.heap.size w W1 := by rw [← HW1.out]; exact bel1 w _
        have hr1 : W1.heap[w.heap.size]? = some (.cells #[.int .i64 y.i, .int .i64 y.t] 36 (0, 0)) := by rw [← HW1.out]; exact heap_alloc_last w _
        have hd1 := h.keep hb1
        have hrf := hd1.refused
        rw [hcut] at hrf
        have HTR : Hid (∀ w', Below W1.heap.size W1 w' → Calls Tryz.prog 56 #[ptr b] w' (TrO w' x.a)) := fun w' hb => (hd1.keep hb).trial hg.aok.2
        have HS : Hid (∀ w', Below W1.heap.size W1 w' → w'.cell? ⟨w.heap.size, 0, none⟩ = some (.int .i64 y.i) ∧ w'.cell? ⟨w.heap.size, 1, none⟩ = some (.int .i64 y.t)) := fun w' hb => (row2 (bel_row hr1 hb)).1
        have HR1 := Hid_of hr1
        have HB1 := Hid_of hb1
        have HH := Hid_of h
        have HG := Hid_of hg
        have HEq := Hid_of (eqE_no he)
        have HNF : Hid (¬ FA w.heap.size) := fun e => by have := (h.a.mine _ e).2; omega
        have HNB : Hid (¬ fpd b FA FD w.heap.size) := fun e => by have := (h.mine _ e).2; omega
        clear h hg hb1 hr1 hd1
        go_enter Tryz.func22, Tryz.ntmps22
        go_upto_region 1 with fail
        rw [HW1.out]
        clear HW1
        go_wp2_with fail
        refine hrf.mono ?_
        rintro e w2 ⟨rfl, hw2⟩
        obtain rfl := hw2.symm
        clear hrf hw2
        go_upto_region 4 with fail
        refine wp_region_held_drew (S := fun wq => Below (W1).heap.size (W1) wq) (by kernel_rfl) (Below.drew (Below.refl _ _)) (fun hHeld => ?_)
        refine wpAnyH_take (i := 0) (oi := ?p0e) (v := ?v0e) ?o0e (by kernel_rfl) (by kernel_rfl) (by kernel_rfl) ?q0e ?y0e hHeld ?r0e
        case o0e => simp only [List.getElem?_toArray, List.getElem?_cons_zero]; rfl
        case q0e => exact fun _ _ _ h => h
        case y0e => (refine Or.inl ⟨rfl, ?_⟩; intro wq hq; obtain ⟨y0, y1⟩ := HS.out wq hq; go_simp; try with_reducible rfl)
        simp only [Act.put, List.setIfInBounds_toArray, List.set_cons_zero, List.set_cons_succ]
        refine wpAnyH_take (i := 2) (oi := ?p2e) (v := ?v2e) ?o2e (by kernel_rfl) (by kernel_rfl) (by kernel_rfl) ?q2e ?y2e hHeld ?r2e
        case o2e => simp only [List.getElem?_toArray, List.getElem?_cons_succ, List.getElem?_cons_zero]; rfl
        case q2e => exact fun _ _ _ h => h
        case y2e => (refine Or.inl ⟨rfl, ?_⟩; intro wq hq; obtain ⟨y0, y1⟩ := HS.out wq hq; go_simp; try with_reducible rfl)
        simp only [Act.put, List.setIfInBounds_toArray, List.set_cons_zero, List.set_cons_succ]
        refine wpAnyH_take (i := 3) (oi := ?p3e) (v := ?v3e) ?o3e (by kernel_rfl) (by kernel_rfl) (by kernel_rfl) ?q3e ?y3e hHeld ?r3e
        case o3e => simp only [List.getElem?_toArray, List.getElem?_cons_succ, List.getElem?_cons_zero]; rfl
        case q3e => exact fun _ _ _ h => h
        case y3e => (refine Or.inl ⟨rfl, ?_⟩; intro wq hq; obtain ⟨y0, y1⟩ := HS.out wq hq; go_simp; try with_reducible rfl)
        simp only [Act.put, List.setIfInBounds_toArray, List.set_cons_zero, List.set_cons_succ]
        refine wpAnyH_ready (rs := [1]) (by kernel_rfl) (by simp) ?_
        refine AllReadyH.cons (o := ?p1e) ?o1e ?s1e AllReadyH.nil
        case o1e => simp only [List.getElem?_toArray, List.getElem?_cons_succ, List.getElem?_cons_zero]; rfl
        intro K hK
        go_simp
        have HH0 := Hid_of hHeld
        refine (HTR.out _ hHeld).mono ?_
        rintro e v1 ⟨tb, Ft, rfl, a1⟩
        have B1 : Below W1.heap.size W1 v1 := hHeld.trans (a1.bel.mono hHeld.size)
        have HA1 := Hid_of a1
        clear a1
        refine hK.out _ _ B1 (fun hHeld => ?_)
        clear hK K
        refine wpAnyH_ready (rs := [4]) (by kernel_rfl) (by simp) ?_
        refine AllReadyH.cons (o := ?p4e) ?o4e ?s4e AllReadyH.nil
        case o4e => simp only [List.getElem?_toArray, List.getElem?_cons_succ, List.getElem?_cons_zero]; rfl
        intro K hK
        go_simp
        refine (HA1.out.promise y k).mono ?_
        rintro e v4 ⟨ad4, c4, rfl, _, _, a4, _⟩
        have B4 : Below W1.heap.size W1 v4 := HH0.out.trans (a4.bel.mono HH0.out.size)
        clear a4 HA1 HH0
        rw [tri_prb, hp]
        refine hK.out _ _ B4 (fun hHeld => ?_)
        clear hK K
        refine wpAnyH_take (i := 5) (oi := ?p5e) (v := ?v5e) ?o5e (by kernel_rfl) (by kernel_rfl) (by kernel_rfl) ?q5e ?y5e hHeld ?r5e
        case o5e => simp only [List.getElem?_toArray, List.getElem?_cons_succ, List.getElem?_cons_zero]; rfl
        case q5e => exact fun _ _ _ h => h
        case y5e => (refine Or.inl ⟨rfl, ?_⟩; intro wq hq; obtain ⟨y0, y1⟩ := HS.out wq hq; go_simp; try with_reducible rfl)
        simp only [Act.put, List.setIfInBounds_toArray, List.set_cons_zero, List.set_cons_succ]
        refine wpAnyH_take (i := 6) (oi := ?p6e) (v := ?v6e) ?o6e (by kernel_rfl) (by kernel_rfl) (by kernel_rfl) ?q6e ?y6e hHeld ?r6e
        case o6e => simp only [List.getElem?_toArray, List.getElem?_cons_succ, List.getElem?_cons_zero]; rfl
        case q6e => exact fun _ _ _ h => h
        case y6e => (refine Or.inl ⟨rfl, ?_⟩; intro wq hq; obtain ⟨y0, y1⟩ := HS.out wq hq; go_simp; try with_reducible rfl)
        simp only [Act.put, List.setIfInBounds_toArray, List.set_cons_zero, List.set_cons_succ]
        refine wpAnyH_take (i := 7) (oi := ?p7e) (v := ?v7e) ?o7e (by kernel_rfl) (by kernel_rfl) (by kernel_rfl) ?q7e ?y7e hHeld ?r7e
        case o7e => simp only [List.getElem?_toArray, List.getElem?_cons_succ, List.getElem?_cons_zero]; rfl
        case q7e => exact fun _ _ _ h => h
        case y7e => (refine Or.inl ⟨rfl, ?_⟩; intro wq hq; obtain ⟨y0, y1⟩ := HS.out wq hq; go_simp; try with_reducible rfl)
        simp only [Act.put, List.setIfInBounds_toArray, List.set_cons_zero, List.set_cons_succ]
        refine wpAnyH_take (i := 8) (oi := ?p8e) (v := ?v8e) ?o8e (by kernel_rfl) (by kernel_rfl) (by kernel_rfl) ?q8e ?y8e hHeld ?r8e
        case o8e => simp only [List.getElem?_toArray, List.getElem?_cons_succ, List.getElem?_cons_zero]; rfl
        case q8e => exact fun _ _ _ h => h
        case y8e => (refine Or.inl ⟨rfl, ?_⟩; intro wq hq; obtain ⟨y0, y1⟩ := HS.out wq hq; go_simp; try with_reducible rfl)
        simp only [Act.put, List.setIfInBounds_toArray, List.set_cons_zero, List.set_cons_succ]
        refine wpAnyH_take (i := 9) (oi := ?p9e) (v := ?v9e) ?o9e (by kernel_rfl) (by kernel_rfl) (by kernel_rfl) ?q9e ?y9e hHeld ?r9e
        case o9e => simp only [List.getElem?_toArray, List.getElem?_cons_succ, List.getElem?_cons_zero]; rfl
        case q9e => exact fun _ _ _ h => h
        case y9e => (refine Or.inl ⟨rfl, ?_⟩; intro wq hq; obtain ⟨y0, y1⟩ := HS.out wq hq; go_simp; try with_reducible rfl)
        simp only [Act.put, List.setIfInBounds_toArray, List.set_cons_zero, List.set_cons_succ]
        refine wpAnyH_done (by kernel_rfl) ?_ _
        obtain ⟨w4, hw4⟩ : ∃ w4, v4 = w4 := ⟨_, rfl⟩
        subst hw4
        have HB4 := Hid_of (bel_up HB1.out hHeld (Nat.le_refl _))
        have HR4 := Hid_of (bel_row HR1.out hHeld)
        clear hHeld HS HTR HR1 HB1
        have HD4 := Hid_of (HH.out.keep HB4.out)
        have HPM : Hid (∀ w', Below v4.heap.size v4 w' → Calls Tryz.prog 16 #[ptr b] w' fun e w'' => e = .returned (bV x.a.p) ∧ Below w'.heap.size w' w'') := fun w' hb => (HD4.out.keep hb).promised
        have HS : Hid (∀ w', Below v4.heap.size v4 w' → w'.cell? ⟨w.heap.size, 0, none⟩ = some (.int .i64 y.i) ∧ w'.cell? ⟨w.heap.size, 1, none⟩ = some (.int .i64 y.t)) := fun w' hb => (row2 (bel_row HR4.out hb)).1
        go_upto_region 7 with fail
        refine wp_region_held_drew (S := fun wq => Below (v4).heap.size (v4) wq) (by kernel_rfl) (Below.drew (Below.refl _ _)) (fun hHeld => ?_)
        refine wpAnyH_take (i := 0) (oi := ?p0f) (v := ?v0f) ?o0f (by kernel_rfl) (by kernel_rfl) (by kernel_rfl) ?q0f ?y0f hHeld ?r0f
        case o0f => simp only [List.getElem?_toArray, List.getElem?_cons_zero]; rfl
        case q0f => exact fun _ _ _ h => h
        case y0f => (refine Or.inl ⟨rfl, ?_⟩; intro wq hq; obtain ⟨y0, y1⟩ := HS.out wq hq; go_simp; try with_reducible rfl)
        simp only [Act.put, List.setIfInBounds_toArray, List.set_cons_zero, List.set_cons_succ]
        refine wpAnyH_take (i := 1) (oi := ?p1f) (v := ?v1f) ?o1f (by kernel_rfl) (by kernel_rfl) (by kernel_rfl) ?q1f ?y1f hHeld ?r1f
        case o1f => simp only [List.getElem?_toArray, List.getElem?_cons_succ, List.getElem?_cons_zero]; rfl
        case q1f => exact fun _ _ _ h => h
        case y1f => (refine Or.inl ⟨rfl, ?_⟩; intro wq hq; obtain ⟨y0, y1⟩ := HS.out wq hq; go_simp; try with_reducible rfl)
        simp only [Act.put, List.setIfInBounds_toArray, List.set_cons_zero, List.set_cons_succ]
        refine wpAnyH_ready (rs := [2]) (by kernel_rfl) (by simp) ?_
        refine AllReadyH.cons (o := ?p2f) ?o2f ?s2f AllReadyH.nil
        case o2f => simp only [List.getElem?_toArray, List.getElem?_cons_succ, List.getElem?_cons_zero]; rfl
        intro K hK
        go_simp
        refine (HPM.out _ hHeld).mono ?_
        rintro e v2 ⟨rfl, hb2⟩
        have B2 : Below v4.heap.size v4 v2 := hHeld.trans (hb2.mono hHeld.size)
        clear hb2
        refine hK.out _ _ B2 (fun hHeld => ?_)
        clear hK K
        refine wpAnyH_take (i := 3) (oi := ?p3f) (v := .bool true) ?o3f (by kernel_rfl) (by kernel_rfl) (by kernel_rfl) ?q3f ?y3f hHeld ?r3f
        case o3f => simp only [List.getElem?_toArray, List.getElem?_cons_succ, List.getElem?_cons_zero]; rfl
        case q3f => exact fun _ _ _ h => h
        case y3f => (refine Or.inl ⟨rfl, ?_⟩; intro wq hq; obtain ⟨y0, y1⟩ := HS.out wq hq; go_simp; have hEq := HEq.out; first | (with_reducible rfl) | (simp [hEq]) | (by_cases q1 : y.i = x.a.p.i <;> by_cases q2 : y.t = x.a.p.t <;> simp_all))
        simp only [Act.put, List.setIfInBounds_toArray, List.set_cons_zero, List.set_cons_succ]
        refine wpAnyH_done (by kernel_rfl) ?_ _
        have HB7 := Hid_of (bel_up HB4.out hHeld (Nat.le_refl _))
        have HR7 := Hid_of (bel_row HR4.out hHeld)
        clear hHeld HS HPM HD4 HB4 HR4
        have hpr := fun W => promiseRecord_any y W
        obtain ⟨⟨c0, c1⟩, _⟩ := row2 HR7.out
        go_wp2_with fail
        refine (hpr _).mono ?_
        rintro e w8 ⟨rfl, hb8⟩
        have HB8 := Hid_of (bel_up HB7.out hb8 (Nat.le_refl _))
        have HR8 := Hid_of (bel_row HR7.out hb8)
        have had := (HH.out.keep HB8.out).add HG.out (.pr y) (vld_wf (may_vld (Na.M.prb_may hp)))
        clear hpr hb8 HB7 HR7 c0 c1
        go_wp2_with fail
        refine had.mono ?_
        rintro e w9 ⟨hy, hno⟩
        clear had
        by_cases hz : sec x.ep x.n (.pr y) ≤ hf n - x.us
        · obtain ⟨G, rfl, hd9, hf9⟩ := hy hz
          have HDL := Hid_of hd9
          have HRL : Hid (w9.heap[w.heap.size]? = some (.cells #[.int .i64 y.i, .int .i64 y.t] 36 (0, 0))) := (hf9.block w.heap.size (Array.getElem?_eq_some_iff.1 HR8.out).1 HNB.out).trans HR8.out
          have HFL := Hid_of ((Fr.ofBelow HB8.out).trans hf9)
          clear hy hno hd9 hf9 HB8 HR8
          have HDd : Hid (DU w0 w9.drew FA G b ab db n (addP n P x (.pr y)) { x with n := x.n + 1, us := x.us + sec x.ep x.n (.pr y) }) := HDL.out.keep (Below.refl _ _).drew
          have HSI : Hid (w9.drew.cell? ⟨b, 0, none⟩ = some (ptr ab) ∧ w9.drew.cell? ⟨w.heap.size, 0, none⟩ = some (.int .i64 y.i) ∧ w9.drew.cell? ⟨w.heap.size, 1, none⟩ = some (.int .i64 y.t)) := ⟨(row7 HDL.out.row).1.1, (row2 HRL.out).1⟩
          have HKS : Hid (∀ w' G, Fr w9.drew FA w' G → w'.cell? ⟨b, 0, none⟩ = some (ptr ab) ∧ w'.cell? ⟨w.heap.size, 0, none⟩ = some (.int .i64 y.i) ∧ w'.cell? ⟨w.heap.size, 1, none⟩ = some (.int .i64 y.t)) := fun w' G hF =>
            ⟨(row7 ((hF.block b HDL.out.lt HDL.out.na).trans HDL.out.row)).1.1, (row2 ((hF.block w.heap.size (Array.getElem?_eq_some_iff.1 HRL.out).1 HNF.out).trans HRL.out)).1⟩
          have HCL := Hid_of (HDd.out.a.promise y k)
          have HFI : Hid (∀ w' ad c, XL vl w' ad c (Na.M.prl x.a y k) → (∀ j, blk ad j → w9.drew.heap.size ≤ j ∧ j < w'.heap.size) → AS w0 w' FA ab (Na.M.prs x.a y k) → Fr w9.drew FA w' FA → PpO w0 w FA FD b ab db n x y k (.returned (.tuple #[.slice ad (Na.M.prl x.a y k).length c, .bool true, .int .i64 0])) w') := fun w' ad c hx hn ha hF => by
            have hrm : rm n x (.pr y) = true := decide_eq_true hz
            have e1 : ppb n x y k = true := by unfold ppb; rw [hcut, hp, hrm]; simp
            have e2 : ppc n x y k = 0 := by unfold ppc; rw [if_neg (by rw [hcut]; simp), if_neg (by rw [hrm]; simp)]
            have e3 : ppl n x y k = Na.M.prl x.a y k := by unfold ppl Na.M.prl; rw [e1, hp]
            have e4 : ppx n x y k = addX x (.pr y) := by unfold ppx; rw [if_pos ⟨e1, he⟩]
            have h1 := HDd.out.chA ha hF
            have hsz : w.heap.size ≤ w9.heap.size := HFL.out.size
            refine ⟨ad, c, by rw [e1, e2, e3], by rw [e3]; exact hx, fun j hj => ⟨Nat.le_trans hsz (hn j hj).1, (hn j hj).2⟩, ?_⟩
            have e5 : addX x (.pr y) = { x with n := x.n + 1, us := x.us + sec x.ep x.n (.pr y), a := Na.M.prs x.a y k } := by unfold addX; rw [redo_pr hp]
            have hgd := HG.out.add (.pr y) (vld_wf (may_vld (Na.M.prb_may hp))) hz
            rw [e4]
            refine ⟨FA, G, addP n P x (.pr y), rs ++ [.pr y], ?_, hgd, (HFL.out.trans (Fr.ofBelow (Below.refl _ _).drew)).trans h1.2⟩
            rw [e5]
            exact h1.1
          clear HDL HRL HDd HFL HH HG HNF HNB
          go_upto_region 11 with fail
          refine wp_region_held_drew (S := (fun wq => wq.cell? ⟨b, 0, none⟩ = some (ptr ab) ∧ wq.cell? ⟨w.heap.size, 0, none⟩ = some (.int .i64 y.i) ∧ wq.cell? ⟨w.heap.size, 1, none⟩ = some (.int .i64 y.t))) (by kernel_rfl) HSI.out (fun hHeld => ?_)
          refine wpAnyH_take (i := 0) (oi := ?p0g) (v := ?v0g) ?o0g (by kernel_rfl) (by kernel_rfl) (by kernel_rfl) ?q0g ?y0g hHeld ?r0g
          case o0g => simp only [List.getElem?_toArray, List.getElem?_cons_zero]; rfl
          case q0g => exact fun _ _ _ h => h
          case y0g => (refine Or.inl ⟨rfl, ?_⟩; intro wq hq; obtain ⟨z0, y0, y1⟩ := hq; go_simp; try with_reducible rfl)
          simp only [Act.put, List.setIfInBounds_toArray, List.set_cons_zero, List.set_cons_succ]
          refine wpAnyH_take (i := 1) (oi := ?p1g) (v := ?v1g) ?o1g (by kernel_rfl) (by kernel_rfl) (by kernel_rfl) ?q1g ?y1g hHeld ?r1g
          case o1g => simp only [List.getElem?_toArray, List.getElem?_cons_succ, List.getElem?_cons_zero]; rfl
          case q1g => exact fun _ _ _ h => h
          case y1g => (refine Or.inl ⟨rfl, ?_⟩; intro wq hq; obtain ⟨z0, y0, y1⟩ := hq; go_simp; try with_reducible rfl)
          simp only [Act.put, List.setIfInBounds_toArray, List.set_cons_zero, List.set_cons_succ]
          refine wpAnyH_take (i := 2) (oi := ?p2g) (v := ?v2g) ?o2g (by kernel_rfl) (by kernel_rfl) (by kernel_rfl) ?q2g ?y2g hHeld ?r2g
          case o2g => simp only [List.getElem?_toArray, List.getElem?_cons_succ, List.getElem?_cons_zero]; rfl
          case q2g => exact fun _ _ _ h => h
          case y2g => (refine Or.inl ⟨rfl, ?_⟩; intro wq hq; obtain ⟨z0, y0, y1⟩ := hq; go_simp; try with_reducible rfl)
          simp only [Act.put, List.setIfInBounds_toArray, List.set_cons_zero, List.set_cons_succ]
          refine wpAnyH_take (i := 3) (oi := ?p3g) (v := ?v3g) ?o3g (by kernel_rfl) (by kernel_rfl) (by kernel_rfl) ?q3g ?y3g hHeld ?r3g
          case o3g => simp only [List.getElem?_toArray, List.getElem?_cons_succ, List.getElem?_cons_zero]; rfl
          case q3g => exact fun _ _ _ h => h
          case y3g => (refine Or.inl ⟨rfl, ?_⟩; intro wq hq; obtain ⟨z0, y0, y1⟩ := hq; go_simp; try with_reducible rfl)
          simp only [Act.put, List.setIfInBounds_toArray, List.set_cons_zero, List.set_cons_succ]
          refine wpAnyH_take (i := 4) (oi := ?p4g) (v := ?v4g) ?o4g (by kernel_rfl) (by kernel_rfl) (by kernel_rfl) ?q4g ?y4g hHeld ?r4g
          case o4g => simp only [List.getElem?_toArray, List.getElem?_cons_succ, List.getElem?_cons_zero]; rfl
          case q4g => exact fun _ _ _ h => h
          case y4g => (refine Or.inl ⟨rfl, ?_⟩; intro wq hq; obtain ⟨z0, y0, y1⟩ := hq; go_simp; try with_reducible rfl)
          simp only [Act.put, List.setIfInBounds_toArray, List.set_cons_zero, List.set_cons_succ]
          refine wpAnyH_take (i := 5) (oi := ?p5g) (v := ?v5g) ?o5g (by kernel_rfl) (by kernel_rfl) (by kernel_rfl) ?q5g ?y5g hHeld ?r5g
          case o5g => simp only [List.getElem?_toArray, List.getElem?_cons_succ, List.getElem?_cons_zero]; rfl
          case q5g => exact fun _ _ _ h => h
          case y5g => (refine Or.inl ⟨rfl, ?_⟩; intro wq hq; obtain ⟨z0, y0, y1⟩ := hq; go_simp; try with_reducible rfl)
          simp only [Act.put, List.setIfInBounds_toArray, List.set_cons_zero, List.set_cons_succ]
          refine wpAnyH_ready (rs := [6]) (by kernel_rfl) (by simp) ?_
          refine AllReadyH.cons (o := ?p6g) ?o6g ?s6g AllReadyH.nil
          case o6g => simp only [List.getElem?_toArray, List.getElem?_cons_succ, List.getElem?_cons_zero]; rfl
          intro K hK
          go_simp
          refine HCL.out.mono ?_
          rintro e v6 ⟨ad6, c6, rfl, hx6, hn6, a6, f6⟩
          have hS := HKS.out _ _ f6
          have HF := Hid_of (HFI.out _ _ _ hx6 hn6 a6 f6)
          clear hx6 hn6 a6 f6
          refine hK.out _ _ hS (fun hHeld => ?_)
          clear hK K
          refine wpAnyH_take (i := 7) (oi := ?p7g) (v := ?v7g) ?o7g (by kernel_rfl) (by kernel_rfl) (by kernel_rfl) ?q7g ?y7g hHeld ?r7g
          case o7g => simp only [List.getElem?_toArray, List.getElem?_cons_succ, List.getElem?_cons_zero]; rfl
          case q7g => exact fun _ _ _ h => h
          case y7g => (refine Or.inl ⟨rfl, ?_⟩; intro wq hq; obtain ⟨z0, y0, y1⟩ := hq; go_simp; try with_reducible rfl)
          simp only [Act.put, List.setIfInBounds_toArray, List.set_cons_zero, List.set_cons_succ]
          refine wpAnyH_take (i := 8) (oi := ?p8g) (v := ?v8g) ?o8g (by kernel_rfl) (by kernel_rfl) (by kernel_rfl) ?q8g ?y8g hHeld ?r8g
          case o8g => simp only [List.getElem?_toArray, List.getElem?_cons_succ, List.getElem?_cons_zero]; rfl
          case q8g => exact fun _ _ _ h => h
          case y8g => (refine Or.inl ⟨rfl, ?_⟩; intro wq hq; obtain ⟨z0, y0, y1⟩ := hq; go_simp; try with_reducible rfl)
          simp only [Act.put, List.setIfInBounds_toArray, List.set_cons_zero, List.set_cons_succ]
          refine wpAnyH_take (i := 9) (oi := ?p9g) (v := ?v9g) ?o9g (by kernel_rfl) (by kernel_rfl) (by kernel_rfl) ?q9g ?y9g hHeld ?r9g
          case o9g => simp only [List.getElem?_toArray, List.getElem?_cons_succ, List.getElem?_cons_zero]; rfl
          case q9g => exact fun _ _ _ h => h
          case y9g => (refine Or.inl ⟨rfl, ?_⟩; intro wq hq; obtain ⟨z0, y0, y1⟩ := hq; go_simp; try with_reducible rfl)
          simp only [Act.put, List.setIfInBounds_toArray, List.set_cons_zero, List.set_cons_succ]
          refine wpAnyH_take (i := 10) (oi := ?p10g) (v := ?v10g) ?o10g (by kernel_rfl) (by kernel_rfl) (by kernel_rfl) ?q10g ?y10g hHeld ?r10g
          case o10g => simp only [List.getElem?_toArray, List.getElem?_cons_succ, List.getElem?_cons_zero]; rfl
          case q10g => exact fun _ _ _ h => h
          case y10g => (refine Or.inl ⟨rfl, ?_⟩; intro wq hq; obtain ⟨z0, y0, y1⟩ := hq; go_simp; try with_reducible rfl)
          simp only [Act.put, List.setIfInBounds_toArray, List.set_cons_zero, List.set_cons_succ]
          refine wpAnyH_take (i := 11) (oi := ?p11g) (v := ?v11g) ?o11g (by kernel_rfl) (by kernel_rfl) (by kernel_rfl) ?q11g ?y11g hHeld ?r11g
          case o11g => simp only [List.getElem?_toArray, List.getElem?_cons_succ, List.getElem?_cons_zero]; rfl
          case q11g => exact fun _ _ _ h => h
          case y11g => (refine Or.inl ⟨rfl, ?_⟩; intro wq hq; obtain ⟨z0, y0, y1⟩ := hq; go_simp; try with_reducible rfl)
          simp only [Act.put, List.setIfInBounds_toArray, List.set_cons_zero, List.set_cons_succ]
          refine wpAnyH_done (by kernel_rfl) ?_ _
          go_wp2
          go_ret3
          exact HF.out
        · obtain ⟨rfl, hb9⟩ := hno hz
          have HQ : Hid (PpO w0 w FA FD b ab db n x y k (.returned (.tuple #[.slice none 0 0, .bool false, .int .i64 5])) w9) := by
            have hrm : rm n x (.pr y) = false := decide_eq_false hz
            have e1 : ppb n x y k = false := by unfold ppb; rw [he, hrm]; simp
            have e2 : ppc n x y k = 5 := by unfold ppc; rw [if_neg (by rw [hcut]; simp), if_pos ⟨hp, he, hrm⟩]
            have e3 : ppl n x y k = [] := by unfold ppl; rw [e1]; rfl
            have e4 : ppx n x y k = x := by unfold ppx; rw [if_neg (by rw [e1]; simp)]
            refine ⟨none, 0, by rw [e1, e2, e3]; rfl, by rw [e3]; exact Na.XL.emp _, fun j hj => (no_blk hj).elim, ?_⟩
            rw [e4]
            exact Chg.same HH.out HG.out (bel_up HB8.out hb9 (Nat.le_refl _))
          clear hy hno hb9 HB8 HR8 HH HG HNF HNB
          go_wp2
          go_ret3
          exact HQ.out
end
end Go.Proofs.YtlnedgjikkhplaaGreat.Du
