/-
  A compaction.
-/
import Derived.Test.YtlnedgjikkhplaaGreatGN40
namespace Go.Proofs.YtlnedgjikkhplaaGreat.Du
open Go.RowKit
set_option linter.unusedVariables false
set_option linter.unusedSimpArgs false
open Na (Fr AS XL vl bV vV Hid_of bel1 bel2 bel_up bel_row row2 row4 blk OwnL AtL)
open Na.M (E V S S0)

open Ns.M (ofL)
/-- A compaction: the code, what becomes. -/
def ccr (n : Nat) (x : X) : Bool := decide (secs (x.ep + 1) 0 (few x.a) ≤ hf n)
def ccs (steps : Int) : Bool := decide (steps = 0) || decide (steps = 1) || decide (steps = 2)
def ccc (n : Nat) (x : X) (steps : Int) : Int := if x.cut = true then 16 else if ccr n x = false then 5 else if ccs steps = true then 16 else 0
def ccx (n : Nat) (x : X) (steps : Int) : X := if x.cut = true ∨ ccr n x = false then x else if ccs steps = true then cutX x else cmpX x
theorem ccs_yes {steps : Int} {k : Nat} (hk : k ≤ 2) (h : steps = k) : ccs steps = true := by
  unfold ccs
  rcases (show k = 0 ∨ k = 1 ∨ k = 2 by omega) with rfl | rfl | rfl <;> subst h <;> rfl
theorem ccs_no {steps : Int} (h : ∀ k : Nat, k < 3 → steps ≠ k) : ccs steps = false := by
  unfold ccs
  have h0 := h 0 (by omega)
  have h1 := h 1 (by omega)
  have h2 := h 2 (by omega)
  simp
  omega
section
variable {w0 w w' : World} {FA FD FA' FD' : Nat → Prop} {b ab db n : Nat} {P P' : List Ns.M.Pl} {x x' : X} {rs : List R}
theorem Gd.pk (hg : Gd n P x rs) (hs : secs (x.ep + 1) 0 (few x.a) ≤ hf n) (k : Nat) (hk : k ≤ 2) : Gd n (Pk n P x k) (cutX x) rs := by
  rcases (show k = 0 ∨ k = 1 ∨ k = 2 by omega) with rfl | rfl | rfl
  · exact hg.cut0
  · exact hg.cut1 hs
  · exact (hg.cut1 hs).flu
def CpO (w0 w : World) (FA FD : Nat → Prop) (b ab db n : Nat) (x : X) (steps : Int) (e : Ending) (w' : World) : Prop :=
  e = .returned (.int .i64 (ccc n x steps)) ∧ Chg w0 w FA FD b ab db n (ccx n x steps) w'
/-- Behind the records. -/
structure R4 (W1 w6 : World) (a : S) (ar : Nat) (ad : Option Addr) (B7 : Nat) : Prop where
  at' : AtL rl w6 ad (few a)
  r7 : w6.heap[B7]? = some (.cells #[.int .i64 ((1 - ar : Nat) : Int)] 3 (0, 0))
  bel : Below W1.heap.size W1 w6
  ge : W1.heap.size ≤ B7
set_option maxRecDepth 100000 in
set_option maxHeartbeats 1000000 in
theorem DU.compact (h : DU w0 w FA FD b ab db n P x) (hg : Gd n P x rs) (he : x.ep < 2147483647) (steps : Int) : Calls Tryz.prog 28 #[ptr b, .int .i64 steps] w (CpO w0 w FA FD b ab db n x steps) := by
  obtain ⟨W1, HW1⟩ : ∃ W1, Hid (w.alloc (.cells #[ptr b] 27) = W1) := ⟨_, Hid_of rfl⟩
  have hb1 : Below w.heap.size w W1 := by rw [← HW1.out]; exact bel1 w _
  have hr1 : W1.heap[w.heap.size]? = some (.cells #[ptr b] 27 (0, 0)) := by rw [← HW1.out]; exact heap_alloc_last w _
  have hd1 := h.keep hb1
  have hrf := hd1.refused
  have c2 := row1 hr1
  cases hcut : x.cut with
  | true =>
    rw [hcut] at hrf
    have HQ : Hid (CpO w0 w FA FD b ab db n x steps (.returned (.int .i64 16)) W1) := by
      have e2 : ccc n x steps = 16 := by unfold ccc; rw [if_pos hcut]
      have e3 : ccx n x steps = x := by unfold ccx; rw [if_pos (.inl hcut)]
      refine ⟨by rw [e2], ?_⟩
      rw [e3]
      exact Chg.same h hg hb1
    clear h hg hb1 hr1 hd1
    go_enter Tryz.func28, Tryz.ntmps28
    go_upto_region 1 with fail
    rw [HW1.out]
    clear HW1
    go_wp2_with fail
    refine hrf.mono ?_
    rintro e w2 ⟨rfl, hw2⟩
    obtain rfl := hw2.symm
    clear hrf hw2
    go_wp2
    go_ret
    exact HQ.out
  | false =>
    rw [hcut] at hrf
    have har := hg.ar
    have HAR1 : Hid (((1 - x.ar : Nat) : Int) = 1 - (x.ar : Int)) := by show _ = _; omega
    have hwar : IntKind.i64.wrap (1 - (x.ar : Int)) = 1 - (x.ar : Int) := by rw [IntKind.wrap_i64]; omega
    have HRC : Hid (∀ w', Below W1.heap.size W1 w' → Calls Tryz.prog 67 #[ptr b] w' (RcO w' x.a)) := fun w' hb => (hd1.keep hb).records
    have HS : Hid (∀ w', Below W1.heap.size W1 w' → w'.cell? ⟨w.heap.size, 0, none⟩ = some (ptr b) ∧ w'.cell? ⟨b, 2, none⟩ = some (.int .i64 x.ar)) := fun w' hb => ⟨row1 (bel_row hr1 hb), (row7 (hd1.keep hb).row).1.2.2.1⟩
    have HH := Hid_of h
    have HG := Hid_of hg
    have HEP := Hid_of he
    have HR1 := Hid_of hr1
    have HB1 := Hid_of hb1
    clear h hg he hb1 hr1 hd1
    go_enter Tryz.func28, Tryz.ntmps28
    go_upto_region 1 with fail
    rw [HW1.out]
    clear HW1
    go_wp2_with fail
    refine hrf.mono ?_
    rintro e w2 ⟨rfl, hw2⟩
    obtain rfl := hw2.symm
    clear hrf hw2 c2
    go_upto_region 4 with fail
    refine wp_region_held_drew (S := fun wq => Below W1.heap.size W1 wq) (by kernel_rfl) (Below.drew (Below.refl _ _)) (fun hHeld => ?_)
    refine wpAnyH_take (i := 0) (oi := ?p0h) (v := ?v0h) ?o0h (by kernel_rfl) (by kernel_rfl) (by kernel_rfl) ?q0h ?y0h hHeld ?r0h
    case o0h => simp only [List.getElem?_toArray, List.getElem?_cons_zero]; rfl
    case q0h => exact fun _ _ _ h => h
    case y0h => (refine Or.inl ⟨rfl, ?_⟩; intro wq hq; obtain ⟨z0, z1⟩ := HS.out wq hq; go_simp; try with_reducible rfl)
    simp only [Act.put, List.setIfInBounds_toArray, List.set_cons_zero, List.set_cons_succ]
    refine wpAnyH_take (i := 2) (oi := ?p2h) (v := ?v2h) ?o2h (by kernel_rfl) (by kernel_rfl) (by kernel_rfl) ?q2h ?y2h hHeld ?r2h
    case o2h => simp only [List.getElem?_toArray, List.getElem?_cons_succ, List.getElem?_cons_zero]; rfl
    case q2h => exact fun _ _ _ h => h
    case y2h => (refine Or.inl ⟨rfl, ?_⟩; intro wq hq; obtain ⟨z0, z1⟩ := HS.out wq hq; go_simp; try with_reducible rfl)
    simp only [Act.put, List.setIfInBounds_toArray, List.set_cons_zero, List.set_cons_succ]
    refine wpAnyH_take (i := 3) (oi := ?p3h) (v := ?v3h) ?o3h (by kernel_rfl) (by kernel_rfl) (by kernel_rfl) ?q3h ?y3h hHeld ?r3h
    case o3h => simp only [List.getElem?_toArray, List.getElem?_cons_succ, List.getElem?_cons_zero]; rfl
    case q3h => exact fun _ _ _ h => h
    case y3h => (refine Or.inl ⟨rfl, ?_⟩; intro wq hq; obtain ⟨z0, z1⟩ := HS.out wq hq; go_simp; try with_reducible rfl)
    simp only [Act.put, List.setIfInBounds_toArray, List.set_cons_zero, List.set_cons_succ]
    refine wpAnyH_take (i := 4) (oi := ?p4h) (v := ?v4h) ?o4h (by kernel_rfl) (by kernel_rfl) (by kernel_rfl) ?q4h ?y4h hHeld ?r4h
    case o4h => simp only [List.getElem?_toArray, List.getElem?_cons_succ, List.getElem?_cons_zero]; rfl
    case q4h => exact fun _ _ _ h => h
    case y4h => (refine Or.inl ⟨rfl, ?_⟩; intro wq hq; obtain ⟨z0, z1⟩ := HS.out wq hq; go_simp; try with_reducible rfl)
    simp only [Act.put, List.setIfInBounds_toArray, List.set_cons_zero, List.set_cons_succ]
    refine wpAnyH_take (i := 5) (oi := ?p5h) (v := ?v5h) ?o5h (by kernel_rfl) (by kernel_rfl) (by kernel_rfl) ?q5h ?y5h hHeld ?r5h
    case o5h => simp only [List.getElem?_toArray, List.getElem?_cons_succ, List.getElem?_cons_zero]; rfl
    case q5h => exact fun _ _ _ h => h
    case y5h => (refine Or.inl ⟨rfl, ?_⟩; intro wq hq; obtain ⟨z0, z1⟩ := HS.out wq hq; go_simp; try with_reducible rfl)
    simp only [Act.put, List.setIfInBounds_toArray, List.set_cons_zero, List.set_cons_succ]
    refine wpAnyH_take (i := 6) (oi := ?p6h) (v := ?v6h) ?o6h (by kernel_rfl) (by kernel_rfl) (by kernel_rfl) ?q6h ?y6h hHeld ?r6h
    case o6h => simp only [List.getElem?_toArray, List.getElem?_cons_succ, List.getElem?_cons_zero]; rfl
    case q6h => exact fun _ _ _ h => h
    case y6h => (refine Or.inl ⟨rfl, ?_⟩; intro wq hq; obtain ⟨z0, z1⟩ := HS.out wq hq; go_simp; try with_reducible rfl)
    simp only [Act.put, List.setIfInBounds_toArray, List.set_cons_zero, List.set_cons_succ]
    refine wpAnyH_ready (rs := [1, 7]) (by kernel_rfl) (by simp) ?_
    refine (AllReadyH.cons (o := ?p1h) ?o1h ?s1h (AllReadyH.cons (o := ?p7h) ?o7h ?s7h AllReadyH.nil))
    case o1h => simp only [List.getElem?_toArray, List.getElem?_cons_succ, List.getElem?_cons_zero]; rfl
    case o7h => simp only [List.getElem?_toArray, List.getElem?_cons_succ, List.getElem?_cons_zero]; rfl
    case s1h =>
      intro K hK
      go_simp
      refine (HRC.out _ hHeld).mono ?_
      rintro e v1 ⟨ad, c6, rfl, hat1, hbk1, hb1⟩
      have B1 : Below W1.heap.size W1 v1 := hHeld.trans (hb1.mono hHeld.size)
      have HAT1 := Hid_of hat1
      have HSZ1 : Hid (W1.heap.size ≤ v1.heap.size) := B1.size
      clear hat1 hb1 hbk1
      refine hK.out _ _ B1 (fun hHeld => ?_)
      clear hK K
      refine wpAnyH_ready (rs := [7]) (by kernel_rfl) (by simp) ?_
      refine AllReadyH.cons (o := ?p7i) ?o7i ?s7i AllReadyH.nil
      case o7i => simp only [List.getElem?_toArray, List.getElem?_cons_succ, List.getElem?_cons_zero]; rfl
      intro K hK
      go_simp
      have B7a : Below W1.heap.size W1 (v1.alloc (.cells #[.int .i64 0] 3)) := bel_up hHeld (bel1 v1 _) (Nat.le_refl _)
      have HB1x := Hid_of hHeld
      refine hK.out _ _ B7a (fun hHeld => ?_)
      clear hK K
      refine wpAnyH_take (i := 8) (oi := ?p8i) (v := ?v8i) ?o8i (by kernel_rfl) (by kernel_rfl) (by kernel_rfl) ?q8i ?y8i hHeld ?r8i
      case o8i => simp only [List.getElem?_toArray, List.getElem?_cons_succ, List.getElem?_cons_zero]; rfl
      case q8i => exact fun _ _ _ h => h
      case y8i => (refine Or.inl ⟨rfl, ?_⟩; intro wq hq; obtain ⟨z0, z1⟩ := HS.out wq hq; go_simp; try with_reducible rfl)
      simp only [Act.put, List.setIfInBounds_toArray, List.set_cons_zero, List.set_cons_succ]
      have HR4 : Hid (R4 W1 (v1.alloc (.cells #[.int .i64 (1 - (x.ar : Int))] 3)) x.a x.ar ad v1.heap.size) := by
        refine ⟨HAT1.out.keep (bel1 v1 _), ?_, bel_up HB1x.out (bel1 v1 _) (Nat.le_refl _), HSZ1.out⟩
        rw [HAR1.out]
        exact heap_alloc_last v1 _
      refine wpAnyH_ready (rs := [9]) (by kernel_rfl) (by simp) ?_
      refine AllReadyH.cons (o := ?p9i) ?o9i ?s9i AllReadyH.nil
      case o9i => simp only [List.getElem?_toArray, List.getElem?_cons_succ, List.getElem?_cons_zero]; rfl
      intro K hK
      go_simp
      refine hK.out _ _ HR4.out.bel (fun hHeld => ?_)
      clear hK K
      refine wpAnyH_done (by kernel_rfl) ?_ _
      clear hHeld HS HRC HAT1 HSZ1 HB1x
      obtain ⟨w6, HW6⟩ : ∃ w6, Hid (v1.alloc (.cells #[.int .i64 (1 - (x.ar : Int))] 3) = w6) := ⟨_, Hid_of rfl⟩
      rw [HW6.out] at HR4
      rw [HW6.out]
      clear HW6
      obtain ⟨B7, hB7⟩ : ∃ B7, v1.heap.size = B7 := ⟨_, rfl⟩
      rw [hB7] at HR4
      try rw [hB7]
      clear hB7
      have htx := textOf_any (few x.a) (x.ep + 1) ad c6 w6 HR4.out.at' (by have := HEP.out; omega) (by have := few_len HG.out.aok.1; omega) (few_wf HG.out.aok.1 HG.out.aok.2)
      have hb6 : Below w.heap.size w w6 := bel_up HB1.out HR4.out.bel (Nat.le_refl _)
      have hd6 := HH.out.keep hb6
      have c2 := row1 (bel_row HR1.out HR4.out.bel)
      obtain ⟨⟨_, _, _, k3, _⟩, _⟩ := row7 hd6.row
      have hep1 : ((x.ep + 1 : Nat) : Int) = (x.ep : Int) + 1 := by omega
      have hepb := HEP.out
      rw [hep1] at htx
      go_wp2_with fail
      refine htx.mono ?_
      rintro e w7 ⟨rfl, hb7⟩
      obtain ⟨W8, HW8⟩ : ∃ W8, Hid (w7.alloc (.cells #[.string (ofL (recs (x.ep + 1) 0 (few x.a)))] 9) = W8) := ⟨_, Hid_of rfl⟩
      have hb8 : Below w7.heap.size w7 W8 := by rw [← HW8.out]; exact bel1 w7 _
      have hr8 : W8.heap[w7.heap.size]? = some (.cells #[.string (ofL (recs (x.ep + 1) 0 (few x.a)))] 9 (0, 0)) := by rw [← HW8.out]; exact heap_alloc_last w7 _
      have h68 : Below w6.heap.size w6 W8 := bel_up hb7 hb8 (Nat.le_refl _)
      have hb08 : Below w.heap.size w W8 := bel_up hb6 h68 (Nat.le_refl _)
      have hd8 := HH.out.keep hb08
      have c2 := row1 (bel_row (bel_row HR1.out HR4.out.bel) h68)
      have c8 := row1 hr8
      have hwi := hd8.width (by have := HG.out.n10; omega)
      have hsz : (ofL (recs (x.ep + 1) 0 (few x.a))).size = secs (x.ep + 1) 0 (few x.a) * 64 := by rw [Ns.M.ofL_size, recs_len]
      have hsl : secs (x.ep + 1) 0 (few x.a) * 64 ≤ 10000000 := by
        have h1 := recs_le (x.ep + 1) (few x.a) 0 (by omega) (by have := few_len HG.out.aok.1; omega) (few_wf HG.out.aok.1 HG.out.aok.2)
        have h2 := few_len HG.out.aok.1
        rw [recs_len] at h1
        omega
      have HR8 := Hid_of hr8
      have HRB := Hid_of (bel_row HR1.out (bel_up HR4.out.bel h68 (Nat.le_refl _)))
      have HR7 := Hid_of (bel_row HR4.out.r7 h68)
      have hz7 : w7.heap.size < W8.heap.size := (Array.getElem?_eq_some_iff.1 hr8).1
      have hge8 : w.heap.size ≤ w7.heap.size := by have := hb6.size; have := hb7.size; omega
      have hge7 : w.heap.size ≤ B7 := by have := HR4.out.ge; have := HB1.out.size; omega
      have h7lt : B7 < W8.heap.size := (Array.getElem?_eq_some_iff.1 HR7.out).1
      have HB8 := Hid_of hb08
      have HEQ : Hid (ccr n x = decide (secs (x.ep + 1) 0 (few x.a) ≤ hf n)) := rfl
      clear htx hb6 hd6 hb7 hb8 hr8 h68 hb08 HR4 k3
      generalize hSC : secs (x.ep + 1) 0 (few x.a) = sc at *
      have HSC := Hid_of hSC
      clear hSC
      have HTT : Hid (ofL (recs (x.ep + 1) 0 (few x.a)) = ofL (recs (x.ep + 1) 0 (few x.a))) := rfl
      have hq1 : ((sc : Int) * 64).tdiv 64 = (sc : Int) := by rw [Int.tdiv_eq_ediv_of_nonneg (by omega)]; omega
      have hq2 : (sc : Int) * 64 / 64 = (sc : Int) := by omega
      have hq3 : ((sc * 64 : Nat) : Int).tdiv 64 = (sc : Int) := by rw [Int.tdiv_eq_ediv_of_nonneg (by omega)]; omega
      go_upto_region 6 with fail
      rw [HW8.out]
      clear HW8
      go_wp2_with fail
      refine hwi.mono ?_
      rintro e w9 ⟨rfl, hw9⟩
      obtain rfl := hw9.symm
      clear hwi hw9
      by_cases hfit : sc ≤ hf n
      · have hdf : decide ((sc : Int) > ((hf n : Nat) : Int)) = false := decide_eq_false (by omega)
        have hdf' : decide (((hf n : Nat) : Int) < (sc : Int)) = false := decide_eq_false (by omega)
        have hccr : ccr n x = true := by rw [HEQ.out]; exact decide_eq_true hfit
        obtain ⟨W9, HW9⟩ : ∃ W9, Hid (W8.alloc (.cells #[.func (.func 70) #[] #[ptr w.heap.size, ptr B7, ptr w7.heap.size], .func (.func 73) #[ptr b] #[], .func (.func 74) #[] #[ptr w.heap.size, ptr B7]] 117) = W9) := ⟨_, Hid_of rfl⟩
        have hb9 : Below W8.heap.size W8 W9 := by rw [← HW9.out]; exact bel1 W8 _
        have hr9 : W9.heap[W8.heap.size]? = some (.cells #[.func (.func 70) #[] #[ptr w.heap.size, ptr B7, ptr w7.heap.size], .func (.func 73) #[ptr b] #[], .func (.func 74) #[] #[ptr w.heap.size, ptr B7]] 117 (0, 0)) := by rw [← HW9.out]; exact heap_alloc_last W8 _
        have hss : SS w0 w FA FD b ab db n P x w.heap.size B7 w7.heap.size W8.heap.size 0 W9 := by
          have hbb : Below w.heap.size w W9 := bel_up HB8.out hb9 (Nat.le_refl _)
          have hlt : ∀ k, fpd b FA FD k → k < w.heap.size := fun k hk => (HH.out.mine k hk).2
          refine ⟨⟨FD, HH.out.keep hbb, ⟨fun e => ?_, fun e => ?_, fun e => ?_, fun e => ?_⟩, Fr.ofBelow hbb⟩, ⟨bel_row HRB.out hb9, bel_row HR7.out hb9, bel_row HR8.out hb9, hr9⟩⟩
          · have := hlt _ e; omega
          · have := hlt _ e; omega
          · have := hlt _ e; omega
          · have := hlt _ e; have := HB8.out.size; omega
        have hdo := do_any HG.out (show secs (x.ep + 1) 0 (few x.a) ≤ hf n by rw [HSC.out]; exact hfit) HEP.out steps hss
        clear hb9 hr9 hss
        go_wp2_with fail
        rw [HW9.out]
        clear HW9
        refine hdo.mono ?_
        rintro e w10 hor
        clear hdo
        rcases hor with ⟨k, hk, hst, rfl, G, hdk, hfk⟩ | ⟨hst, rfl, hS3⟩
        · have HQ : Hid (CpO w0 w FA FD b ab db n x steps (.returned (.int .i64 16)) w10) := by
            have e1 := ccs_yes hk hst
            have e2 : ccc n x steps = 16 := by unfold ccc; rw [if_neg (by rw [hcut]; simp), if_neg (by rw [hccr]; simp), if_pos e1]
            have e3 : ccx n x steps = cutX x := by unfold ccx; rw [if_neg (by rw [hcut, hccr]; simp), if_pos e1]
            refine ⟨by rw [e2], ?_⟩
            rw [e3]
            exact ⟨FA, G, _, rs, hdk, HG.out.pk (by rw [HSC.out]; exact hfit) k hk, hfk⟩
          clear hdk hfk HH HG HEP HSC HTT HEQ HR1 HB1 HR8 HRB HR7 HB8 c2 c8
          go_wp2
          go_ret
          exact HQ.out
        · obtain ⟨⟨G, hd3, hn3, hf3⟩, hc3⟩ := hS3
          obtain ⟨⟨k0, k1, k2, k3, k4, k5, k6⟩, kf⟩ := row7 hd3.row
          have f2 := kf 2
          have f3 := kf 3
          have f4 := kf 4
          have f5 := kf 5
          have hne2 : w.heap.size ≠ b := fun e => hn3.1 (.inl e)
          have hne7 : B7 ≠ b := fun e => hn3.2.1 (.inl e)
          have hset : ∀ (w' : World) j v, (w'.heap[w.heap.size]? = some (.cells #[ptr b] 27 (0, 0)) ∧ w'.heap[B7]? = some (.cells #[.int .i64 ((1 - x.ar : Nat) : Int)] 3 (0, 0))) → ((w'.setCell ⟨b, j, none⟩ v).heap[w.heap.size]? = some (.cells #[ptr b] 27 (0, 0)) ∧ (w'.setCell ⟨b, j, none⟩ v).heap[B7]? = some (.cells #[.int .i64 ((1 - x.ar : Nat) : Int)] 3 (0, 0))) := fun w' j v hh =>
            ⟨(heap_setCell_other _ ⟨b, j, none⟩ _ _ hne2).trans hh.1, (heap_setCell_other _ ⟨b, j, none⟩ _ _ hne7).trans hh.2⟩
          have hcel : ∀ (w' : World), (w'.heap[w.heap.size]? = some (.cells #[ptr b] 27 (0, 0)) ∧ w'.heap[B7]? = some (.cells #[.int .i64 ((1 - x.ar : Nat) : Int)] 3 (0, 0))) → w'.drew.cell? ⟨w.heap.size, 0, none⟩ = some (ptr b) ∧ w'.drew.cell? ⟨B7, 0, none⟩ = some (.int .i64 ((1 - x.ar : Nat) : Int)) := fun w' hh => ⟨row1 (w := w'.drew) hh.1, row1 (w := w'.drew) hh.2⟩
          have q0 := And.intro hc3.r2 hc3.r7
          have q1 := hset w10 2 (.int .i64 ((1 - x.ar : Nat) : Int)) q0
          have q2 := hset _ 3 (.int .i64 ((x.ep : Int) + 1)) q1
          have q3 := hset _ 4 (.int .i64 ((few x.a).length : Nat)) q2
          have q4 := hset _ 5 (.int .i64 (sc : Int)) q3
          have HZ0 := Hid_of (hcel _ q0)
          have HZ1 := Hid_of (hcel _ q1)
          have HZ2 := Hid_of (hcel _ q2)
          have HZ3 := Hid_of (hcel _ q3)
          have HZ4 := Hid_of (hcel _ q4)
          have HQ : Hid (CpO w0 w FA FD b ab db n x steps (.returned (.int .i64 0)) ((((w10.setCell ⟨b, 2, none⟩ (.int .i64 ((1 - x.ar : Nat) : Int))).setCell ⟨b, 3, none⟩ (.int .i64 ((x.ep : Int) + 1))).setCell ⟨b, 4, none⟩ (.int .i64 ((few x.a).length : Nat))).setCell ⟨b, 5, none⟩ (.int .i64 (sc : Int))).drew) := by
            have e1 := ccs_no hst
            have e2 : ccc n x steps = 0 := by unfold ccc; rw [if_neg (by rw [hcut]; simp), if_neg (by rw [hccr]; simp), if_neg (by rw [e1]; simp)]
            have e3 : ccx n x steps = cmpX x := by unfold ccx; rw [if_neg (by rw [hcut, hccr]; simp), if_neg (by rw [e1]; simp)]
            have hX := hd3.chR (x' := cmpX x) (w' := (((w10.setCell ⟨b, 2, none⟩ (.int .i64 ((1 - x.ar : Nat) : Int))).setCell ⟨b, 3, none⟩ (.int .i64 ((x.ep : Int) + 1))).setCell ⟨b, 4, none⟩ (.int .i64 ((few x.a).length : Nat))).setCell ⟨b, 5, none⟩ (.int .i64 (sc : Int))) (by
              rw [heap_setCell_same _ b 5 _ _ _ (heap_setCell_same _ b 4 _ _ _ (heap_setCell_same _ b 3 _ _ _ (heap_setCell_same w10 b 2 _ _ _ hd3.row)))]
              have ex : xrow ab db x = #[ptr ab, ptr db, .int .i64 x.ar, .int .i64 x.ep, .int .i64 x.n, .int .i64 x.us, .bool false] := by
                show #[ptr ab, ptr db, .int .i64 x.ar, .int .i64 x.ep, .int .i64 x.n, .int .i64 x.us, .bool x.cut] = _
                rw [hcut]
              rw [ex]
              unfold cmpX
              rw [HSC.out]
              rfl) rfl (fr_cell (fr_cell (fr_cell (fr_cell (Fr.refl _ _) 2 _) 3 _) 4 _) 5 _)
            refine ⟨by rw [e2], ?_⟩
            rw [e3]
            exact ⟨FA, G, _, few x.a, hX.1.keep (Below.refl _ _).drew, HG.out.done (by rw [HSC.out]; exact hfit) HEP.out, (hf3.trans hX.2).trans (Fr.ofBelow (Below.refl _ _).drew)⟩
          have hwr1 : IntKind.i64.wrap ((x.ep : Int) + 1) = (x.ep : Int) + 1 := by rw [IntKind.wrap_i64]; omega
          clear hd3 hn3 hf3 hc3 kf hset hcel q0 q1 q2 q3 q4 HH HG HEP HSC HTT HEQ HR1 HB1 HR8 HRB HR7 HB8 c2 c8 k0 k1 k6
          go_upto_region 12 with fail
          refine wp_region_held_drew (S := (fun wq => wq.cell? ⟨w.heap.size, 0, none⟩ = some (ptr b) ∧ wq.cell? ⟨B7, 0, none⟩ = some (.int .i64 ((1 - x.ar : Nat) : Int)))) (by kernel_rfl) HZ0.out (fun hHeld => ?_)
          refine wpAnyH_take (i := 0) (oi := ?p0m) (v := ?v0m) ?o0m (by kernel_rfl) (by kernel_rfl) (by kernel_rfl) ?q0m ?y0m hHeld ?r0m
          case o0m => simp only [List.getElem?_toArray, List.getElem?_cons_zero]; rfl
          case q0m => exact fun _ _ _ h => h
          case y0m => (refine Or.inl ⟨rfl, ?_⟩; intro wq hq; obtain ⟨z0, z1⟩ := hq; go_simp; try with_reducible rfl)
          simp only [Act.put, List.setIfInBounds_toArray, List.set_cons_zero, List.set_cons_succ]
          refine wpAnyH_take (i := 1) (oi := ?p1m) (v := ?v1m) ?o1m (by kernel_rfl) (by kernel_rfl) (by kernel_rfl) ?q1m ?y1m hHeld ?r1m
          case o1m => simp only [List.getElem?_toArray, List.getElem?_cons_succ, List.getElem?_cons_zero]; rfl
          case q1m => exact fun _ _ _ h => h
          case y1m => (refine Or.inl ⟨rfl, ?_⟩; intro wq hq; obtain ⟨z0, z1⟩ := hq; go_simp; try with_reducible rfl)
          simp only [Act.put, List.setIfInBounds_toArray, List.set_cons_zero, List.set_cons_succ]
          refine wpAnyH_take (i := 2) (oi := ?p2m) (v := ?v2m) ?o2m (by kernel_rfl) (by kernel_rfl) (by kernel_rfl) ?q2m ?y2m hHeld ?r2m
          case o2m => simp only [List.getElem?_toArray, List.getElem?_cons_succ, List.getElem?_cons_zero]; rfl
          case q2m => exact fun _ _ _ h => h
          case y2m => (refine Or.inl ⟨rfl, ?_⟩; intro wq hq; obtain ⟨z0, z1⟩ := hq; go_simp; try with_reducible rfl)
          simp only [Act.put, List.setIfInBounds_toArray, List.set_cons_zero, List.set_cons_succ]
          refine wpAnyH_take (i := 3) (oi := ?p3m) (v := ?v3m) ?o3m (by kernel_rfl) (by kernel_rfl) (by kernel_rfl) ?q3m ?y3m hHeld ?r3m
          case o3m => simp only [List.getElem?_toArray, List.getElem?_cons_succ, List.getElem?_cons_zero]; rfl
          case q3m => exact fun _ _ _ h => h
          case y3m => (refine Or.inl ⟨rfl, ?_⟩; intro wq hq; obtain ⟨z0, z1⟩ := hq; go_simp; try with_reducible rfl)
          simp only [Act.put, List.setIfInBounds_toArray, List.set_cons_zero, List.set_cons_succ]
          refine wpAnyH_take (i := 4) (oi := ?p4m) (v := ?v4m) ?o4m (by kernel_rfl) (by kernel_rfl) (by kernel_rfl) ?q4m ?y4m hHeld ?r4m
          case o4m => simp only [List.getElem?_toArray, List.getElem?_cons_succ, List.getElem?_cons_zero]; rfl
          case q4m => exact fun _ _ _ h => h
          case y4m => (refine Or.inl ⟨rfl, ?_⟩; intro wq hq; obtain ⟨z0, z1⟩ := hq; go_simp; try with_reducible rfl)
          simp only [Act.put, List.setIfInBounds_toArray, List.set_cons_zero, List.set_cons_succ]
          refine wpAnyH_take (i := 5) (oi := ?p5m) (v := ?v5m) ?o5m (by kernel_rfl) (by kernel_rfl) (by kernel_rfl) ?q5m ?y5m hHeld ?r5m
          case o5m => simp only [List.getElem?_toArray, List.getElem?_cons_succ, List.getElem?_cons_zero]; rfl
          case q5m => exact fun _ _ _ h => h
          case y5m => (refine Or.inl ⟨rfl, ?_⟩; intro wq hq; obtain ⟨z0, z1⟩ := hq; go_simp; try with_reducible rfl)
          simp only [Act.put, List.setIfInBounds_toArray, List.set_cons_zero, List.set_cons_succ]
          refine wpAnyH_take (i := 6) (oi := ?p6m) (v := ?v6m) ?o6m (by kernel_rfl) (by kernel_rfl) (by kernel_rfl) ?q6m ?y6m hHeld ?r6m
          case o6m => simp only [List.getElem?_toArray, List.getElem?_cons_succ, List.getElem?_cons_zero]; rfl
          case q6m => exact fun _ _ _ h => h
          case y6m => (refine Or.inl ⟨rfl, ?_⟩; intro wq hq; obtain ⟨z0, z1⟩ := hq; go_simp; try with_reducible rfl)
          simp only [Act.put, List.setIfInBounds_toArray, List.set_cons_zero, List.set_cons_succ]
          refine wpAnyH_take (i := 7) (oi := ?p7m) (v := ?v7m) ?o7m (by kernel_rfl) (by kernel_rfl) (by kernel_rfl) ?q7m ?y7m hHeld ?r7m
          case o7m => simp only [List.getElem?_toArray, List.getElem?_cons_succ, List.getElem?_cons_zero]; rfl
          case q7m => exact fun _ _ _ h => h
          case y7m => (refine Or.inl ⟨rfl, ?_⟩; intro wq hq; obtain ⟨z0, z1⟩ := hq; go_simp; try with_reducible rfl)
          simp only [Act.put, List.setIfInBounds_toArray, List.set_cons_zero, List.set_cons_succ]
          refine wpAnyH_take (i := 10) (oi := ?p10m) (v := ?v10m) ?o10m (by kernel_rfl) (by kernel_rfl) (by kernel_rfl) ?q10m ?y10m hHeld ?r10m
          case o10m => simp only [List.getElem?_toArray, List.getElem?_cons_succ, List.getElem?_cons_zero]; rfl
          case q10m => exact fun _ _ _ h => h
          case y10m => (refine Or.inl ⟨rfl, ?_⟩; intro wq hq; obtain ⟨z0, z1⟩ := hq; go_simp; try with_reducible rfl)
          simp only [Act.put, List.setIfInBounds_toArray, List.set_cons_zero, List.set_cons_succ]
          refine wpAnyH_take (i := 11) (oi := ?p11m) (v := ?v11m) ?o11m (by kernel_rfl) (by kernel_rfl) (by kernel_rfl) ?q11m ?y11m hHeld ?r11m
          case o11m => simp only [List.getElem?_toArray, List.getElem?_cons_succ, List.getElem?_cons_zero]; rfl
          case q11m => exact fun _ _ _ h => h
          case y11m => (refine Or.inl ⟨rfl, ?_⟩; intro wq hq; obtain ⟨z0, z1⟩ := hq; go_simp; try with_reducible rfl)
          simp only [Act.put, List.setIfInBounds_toArray, List.set_cons_zero, List.set_cons_succ]
          refine wpAnyH_take (i := 12) (oi := ?p12m) (v := ?v12m) ?o12m (by kernel_rfl) (by kernel_rfl) (by kernel_rfl) ?q12m ?y12m hHeld ?r12m
          case o12m => simp only [List.getElem?_toArray, List.getElem?_cons_succ, List.getElem?_cons_zero]; rfl
          case q12m => exact fun _ _ _ h => h
          case y12m => (refine Or.inl ⟨rfl, ?_⟩; intro wq hq; obtain ⟨z0, z1⟩ := hq; go_simp; try with_reducible rfl)
          simp only [Act.put, List.setIfInBounds_toArray, List.set_cons_zero, List.set_cons_succ]
          refine wpAnyH_ready (rs := [8]) (by kernel_rfl) (by simp) ?_
          refine AllReadyH.cons (o := ?p8m) ?o8m ?s8m AllReadyH.nil
          case o8m => simp only [List.getElem?_toArray, List.getElem?_cons_succ, List.getElem?_cons_zero]; rfl
          intro K hK
          go_simp
          go_simp
          refine hK.out _ _ hHeld (fun hHeld => ?_)
          clear hK K
          refine wpAnyH_take (i := 9) (oi := ?p9m) (v := ?v9m) ?o9m (by kernel_rfl) (by kernel_rfl) (by kernel_rfl) ?q9m ?y9m hHeld ?r9m
          case o9m => simp only [List.getElem?_toArray, List.getElem?_cons_succ, List.getElem?_cons_zero]; rfl
          case q9m => exact fun _ _ _ h => h
          case y9m => (refine Or.inl ⟨rfl, ?_⟩; intro wq hq; obtain ⟨z0, z1⟩ := hq; go_simp; try with_reducible rfl)
          simp only [Act.put, List.setIfInBounds_toArray, List.set_cons_zero, List.set_cons_succ]
          refine wpAnyH_take (i := 13) (oi := ?p13m) (v := ?v13m) ?o13m (by kernel_rfl) (by kernel_rfl) (by kernel_rfl) ?q13m ?y13m hHeld ?r13m
          case o13m => simp only [List.getElem?_toArray, List.getElem?_cons_succ, List.getElem?_cons_zero]; rfl
          case q13m => exact fun _ _ _ h => h
          case y13m => (refine Or.inl ⟨rfl, ?_⟩; intro wq hq; obtain ⟨z0, z1⟩ := hq; go_simp; try with_reducible rfl)
          simp only [Act.put, List.setIfInBounds_toArray, List.set_cons_zero, List.set_cons_succ]
          refine wpAnyH_take (i := 14) (oi := ?p14m) (v := ?v14m) ?o14m (by kernel_rfl) (by kernel_rfl) (by kernel_rfl) ?q14m ?y14m hHeld ?r14m
          case o14m => simp only [List.getElem?_toArray, List.getElem?_cons_succ, List.getElem?_cons_zero]; rfl
          case q14m => exact fun _ _ _ h => h
          case y14m => (refine Or.inl ⟨rfl, ?_⟩; intro wq hq; obtain ⟨z0, z1⟩ := hq; go_simp; try with_reducible rfl)
          simp only [Act.put, List.setIfInBounds_toArray, List.set_cons_zero, List.set_cons_succ]
          refine wpAnyH_ready (rs := [15]) (by kernel_rfl) (by simp) ?_
          refine AllReadyH.cons (o := ?p15m) ?o15m ?s15m AllReadyH.nil
          case o15m => simp only [List.getElem?_toArray, List.getElem?_cons_succ, List.getElem?_cons_zero]; rfl
          intro K hK
          go_simp
          go_simp
          refine hK.out _ _ HZ1.out (fun hHeld => ?_)
          clear hK K
          refine wpAnyH_take (i := 16) (oi := ?p16m) (v := ?v16m) ?o16m (by kernel_rfl) (by kernel_rfl) (by kernel_rfl) ?q16m ?y16m hHeld ?r16m
          case o16m => simp only [List.getElem?_toArray, List.getElem?_cons_succ, List.getElem?_cons_zero]; rfl
          case q16m => exact fun _ _ _ h => h
          case y16m => (refine Or.inl ⟨rfl, ?_⟩; intro wq hq; obtain ⟨z0, z1⟩ := hq; go_simp; try with_reducible rfl)
          simp only [Act.put, List.setIfInBounds_toArray, List.set_cons_zero, List.set_cons_succ]
          refine wpAnyH_take (i := 17) (oi := ?p17m) (v := ?v17m) ?o17m (by kernel_rfl) (by kernel_rfl) (by kernel_rfl) ?q17m ?y17m hHeld ?r17m
          case o17m => simp only [List.getElem?_toArray, List.getElem?_cons_succ, List.getElem?_cons_zero]; rfl
          case q17m => exact fun _ _ _ h => h
          case y17m => (refine Or.inl ⟨rfl, ?_⟩; intro wq hq; obtain ⟨z0, z1⟩ := hq; go_simp; try with_reducible rfl)
          simp only [Act.put, List.setIfInBounds_toArray, List.set_cons_zero, List.set_cons_succ]
          refine wpAnyH_ready (rs := [18]) (by kernel_rfl) (by simp) ?_
          refine AllReadyH.cons (o := ?p18m) ?o18m ?s18m AllReadyH.nil
          case o18m => simp only [List.getElem?_toArray, List.getElem?_cons_succ, List.getElem?_cons_zero]; rfl
          intro K hK
          go_simp
          go_simp
          refine hK.out _ _ HZ2.out (fun hHeld => ?_)
          clear hK K
          refine wpAnyH_take (i := 19) (oi := ?p19m) (v := ?v19m) ?o19m (by kernel_rfl) (by kernel_rfl) (by kernel_rfl) ?q19m ?y19m hHeld ?r19m
          case o19m => simp only [List.getElem?_toArray, List.getElem?_cons_succ, List.getElem?_cons_zero]; rfl
          case q19m => exact fun _ _ _ h => h
          case y19m => (refine Or.inl ⟨rfl, ?_⟩; intro wq hq; obtain ⟨z0, z1⟩ := hq; go_simp; try with_reducible rfl)
          simp only [Act.put, List.setIfInBounds_toArray, List.set_cons_zero, List.set_cons_succ]
          refine wpAnyH_take (i := 20) (oi := ?p20m) (v := ?v20m) ?o20m (by kernel_rfl) (by kernel_rfl) (by kernel_rfl) ?q20m ?y20m hHeld ?r20m
          case o20m => simp only [List.getElem?_toArray, List.getElem?_cons_succ, List.getElem?_cons_zero]; rfl
          case q20m => exact fun _ _ _ h => h
          case y20m => (refine Or.inl ⟨rfl, ?_⟩; intro wq hq; obtain ⟨z0, z1⟩ := hq; go_simp; try with_reducible rfl)
          simp only [Act.put, List.setIfInBounds_toArray, List.set_cons_zero, List.set_cons_succ]
          refine wpAnyH_ready (rs := [21]) (by kernel_rfl) (by simp) ?_
          refine AllReadyH.cons (o := ?p21m) ?o21m ?s21m AllReadyH.nil
          case o21m => simp only [List.getElem?_toArray, List.getElem?_cons_succ, List.getElem?_cons_zero]; rfl
          intro K hK
          go_simp
          go_simp
          refine hK.out _ _ HZ3.out (fun hHeld => ?_)
          clear hK K
          refine wpAnyH_take (i := 22) (oi := ?p22m) (v := ?v22m) ?o22m (by kernel_rfl) (by kernel_rfl) (by kernel_rfl) ?q22m ?y22m hHeld ?r22m
          case o22m => simp only [List.getElem?_toArray, List.getElem?_cons_succ, List.getElem?_cons_zero]; rfl
          case q22m => exact fun _ _ _ h => h
          case y22m => (refine Or.inl ⟨rfl, ?_⟩; intro wq hq; obtain ⟨z0, z1⟩ := hq; go_simp; try with_reducible rfl)
          simp only [Act.put, List.setIfInBounds_toArray, List.set_cons_zero, List.set_cons_succ]
          refine wpAnyH_take (i := 23) (oi := ?p23m) (v := ?v23m) ?o23m (by kernel_rfl) (by kernel_rfl) (by kernel_rfl) ?q23m ?y23m hHeld ?r23m
          case o23m => simp only [List.getElem?_toArray, List.getElem?_cons_succ, List.getElem?_cons_zero]; rfl
          case q23m => exact fun _ _ _ h => h
          case y23m => (refine Or.inl ⟨rfl, ?_⟩; intro wq hq; obtain ⟨z0, z1⟩ := hq; go_simp; try with_reducible rfl)
          simp only [Act.put, List.setIfInBounds_toArray, List.set_cons_zero, List.set_cons_succ]
          refine wpAnyH_ready (rs := [24]) (by kernel_rfl) (by simp) ?_
          refine AllReadyH.cons (o := ?p24m) ?o24m ?s24m AllReadyH.nil
          case o24m => simp only [List.getElem?_toArray, List.getElem?_cons_succ, List.getElem?_cons_zero]; rfl
          intro K hK
          go_simp
          go_simp
          refine hK.out _ _ HZ4.out (fun hHeld => ?_)
          clear hK K
          refine wpAnyH_done (by kernel_rfl) ?_ _
          go_wp2
          go_ret
          exact HQ.out
      · have hdf : decide ((sc : Int) > ((hf n : Nat) : Int)) = true := decide_eq_true (by omega)
        have hdf' : decide (((hf n : Nat) : Int) < (sc : Int)) = true := decide_eq_true (by omega)
        have HQ : Hid (CpO w0 w FA FD b ab db n x steps (.returned (.int .i64 5)) W8) := by
          have hccr : ccr n x = false := by rw [HEQ.out]; exact decide_eq_false hfit
          have e2 : ccc n x steps = 5 := by unfold ccc; rw [if_neg (by rw [hcut]; simp), if_pos hccr]
          have e3 : ccx n x steps = x := by unfold ccx; rw [if_pos (.inr hccr)]
          refine ⟨by rw [e2], ?_⟩
          rw [e3]
          exact Chg.same HH.out HG.out HB8.out
        clear HH HG HEP HSC HTT HEQ HR1 HB1 HR8 HRB HR7 HB8 c2 c8
        go_wp2
        go_ret
        exact HQ.out
    case s7h =>
      intro K hK
      go_simp
      have B7a : Below W1.heap.size W1 (W1.alloc (.cells #[.int .i64 0] 3)).drew := (bel1 W1 _).drew
      have HRZ : Hid ((W1.alloc (.cells #[.int .i64 0] 3)).drew.heap[W1.heap.size]? = some (.cells #[.int .i64 0] 3 (0, 0))) := heap_alloc_last W1 _
      refine hK.out _ _ B7a (fun hHeld => ?_)
      clear hK K
      refine wpAnyH_ready (rs := [1]) (by kernel_rfl) (by simp) ?_
      refine AllReadyH.cons (o := ?p1j) ?o1j ?s1j AllReadyH.nil
      case o1j => simp only [List.getElem?_toArray, List.getElem?_cons_succ, List.getElem?_cons_zero]; rfl
      intro K hK
      go_simp
      refine (HRC.out _ hHeld).mono ?_
      rintro e v1 ⟨ad, c6, rfl, hat1, hbk1, hb1⟩
      have B1 : Below W1.heap.size W1 v1 := hHeld.trans (hb1.mono hHeld.size)
      have HAT1 := Hid_of hat1
      have hrz : v1.heap[W1.heap.size]? = some (.cells #[.int .i64 0] 3 (0, 0)) := bel_row (HRZ.out) hb1
      have HNB : Hid (∀ k, blk ad k → k ≠ W1.heap.size) := fun k hk e => by have := (hbk1 k hk).1; simp at this; omega
      have HRZ1 := Hid_of hrz
      clear hat1 hb1 hbk1 hrz
      refine hK.out _ _ B1 (fun hHeld => ?_)
      clear hK K
      refine wpAnyH_take (i := 8) (oi := ?p8j) (v := ?v8j) ?o8j (by kernel_rfl) (by kernel_rfl) (by kernel_rfl) ?q8j ?y8j hHeld ?r8j
      case o8j => simp only [List.getElem?_toArray, List.getElem?_cons_succ, List.getElem?_cons_zero]; rfl
      case q8j => exact fun _ _ _ h => h
      case y8j => (refine Or.inl ⟨rfl, ?_⟩; intro wq hq; obtain ⟨z0, z1⟩ := HS.out wq hq; go_simp; try with_reducible rfl)
      simp only [Act.put, List.setIfInBounds_toArray, List.set_cons_zero, List.set_cons_succ]
      have z7 := row1 HRZ1.out
      have f7 := frozen_of_row _ W1.heap.size 0 _ _ HRZ1.out
      have HR4 : Hid (R4 W1 (v1.setCell ⟨W1.heap.size, 0, none⟩ (.int .i64 (1 - (x.ar : Int)))) x.a x.ar ad W1.heap.size) := by
        refine ⟨HAT1.out.keepBut fun k hk hk2 => heap_setCell_other _ ⟨W1.heap.size, 0, none⟩ k _ (HNB.out k hk2), ?_, hHeld.setCell (p := ⟨W1.heap.size, 0, none⟩) (Nat.le_refl _) _, Nat.le_refl _⟩
        rw [HAR1.out]
        exact heap_setCell_same _ W1.heap.size 0 _ _ _ HRZ1.out
      refine wpAnyH_ready (rs := [9]) (by kernel_rfl) (by simp) ?_
      refine AllReadyH.cons (o := ?p9j) ?o9j ?s9j AllReadyH.nil
      case o9j => simp only [List.getElem?_toArray, List.getElem?_cons_succ, List.getElem?_cons_zero]; rfl
      intro K hK
      go_simp
      refine hK.out _ _ HR4.out.bel (fun hHeld => ?_)
      clear hK K
      refine wpAnyH_done (by kernel_rfl) ?_ _
      clear hHeld HS HRC HAT1 HNB HRZ1 HRZ z7 f7
      obtain ⟨w6, HW6⟩ : ∃ w6, Hid (v1.setCell ⟨W1.heap.size, 0, none⟩ (.int .i64 (1 - (x.ar : Int))) = w6) := ⟨_, Hid_of rfl⟩
      rw [HW6.out] at HR4
      rw [HW6.out]
      clear HW6
      obtain ⟨B7, hB7⟩ : ∃ B7, W1.heap.size = B7 := ⟨_, rfl⟩
      rw [hB7] at HR4
      try rw [hB7]
      clear hB7
      have htx := textOf_any (few x.a) (x.ep + 1) ad c6 w6 HR4.out.at' (by have := HEP.out; omega) (by have := few_len HG.out.aok.1; omega) (few_wf HG.out.aok.1 HG.out.aok.2)
      have hb6 : Below w.heap.size w w6 := bel_up HB1.out HR4.out.bel (Nat.le_refl _)
      have hd6 := HH.out.keep hb6
      have c2 := row1 (bel_row HR1.out HR4.out.bel)
      obtain ⟨⟨_, _, _, k3, _⟩, _⟩ := row7 hd6.row
      have hep1 : ((x.ep + 1 : Nat) : Int) = (x.ep : Int) + 1 := by omega
      have hepb := HEP.out
      rw [hep1] at htx
      go_wp2_with fail
      refine htx.mono ?_
      rintro e w7 ⟨rfl, hb7⟩
      obtain ⟨W8, HW8⟩ : ∃ W8, Hid (w7.alloc (.cells #[.string (ofL (recs (x.ep + 1) 0 (few x.a)))] 9) = W8) := ⟨_, Hid_of rfl⟩
      have hb8 : Below w7.heap.size w7 W8 := by rw [← HW8.out]; exact bel1 w7 _
      have hr8 : W8.heap[w7.heap.size]? = some (.cells #[.string (ofL (recs (x.ep + 1) 0 (few x.a)))] 9 (0, 0)) := by rw [← HW8.out]; exact heap_alloc_last w7 _
      have h68 : Below w6.heap.size w6 W8 := bel_up hb7 hb8 (Nat.le_refl _)
      have hb08 : Below w.heap.size w W8 := bel_up hb6 h68 (Nat.le_refl _)
      have hd8 := HH.out.keep hb08
      have c2 := row1 (bel_row (bel_row HR1.out HR4.out.bel) h68)
      have c8 := row1 hr8
      have hwi := hd8.width (by have := HG.out.n10; omega)
      have hsz : (ofL (recs (x.ep + 1) 0 (few x.a))).size = secs (x.ep + 1) 0 (few x.a) * 64 := by rw [Ns.M.ofL_size, recs_len]
      have hsl : secs (x.ep + 1) 0 (few x.a) * 64 ≤ 10000000 := by
        have h1 := recs_le (x.ep + 1) (few x.a) 0 (by omega) (by have := few_len HG.out.aok.1; omega) (few_wf HG.out.aok.1 HG.out.aok.2)
        have h2 := few_len HG.out.aok.1
        rw [recs_len] at h1
        omega
      have HR8 := Hid_of hr8
      have HRB := Hid_of (bel_row HR1.out (bel_up HR4.out.bel h68 (Nat.le_refl _)))
      have HR7 := Hid_of (bel_row HR4.out.r7 h68)
      have hz7 : w7.heap.size < W8.heap.size := (Array.getElem?_eq_some_iff.1 hr8).1
      have hge8 : w.heap.size ≤ w7.heap.size := by have := hb6.size; have := hb7.size; omega
      have hge7 : w.heap.size ≤ B7 := by have := HR4.out.ge; have := HB1.out.size; omega
      have h7lt : B7 < W8.heap.size := (Array.getElem?_eq_some_iff.1 HR7.out).1
      have HB8 := Hid_of hb08
      have HEQ : Hid (ccr n x = decide (secs (x.ep + 1) 0 (few x.a) ≤ hf n)) := rfl
      clear htx hb6 hd6 hb7 hb8 hr8 h68 hb08 HR4 k3
      generalize hSC : secs (x.ep + 1) 0 (few x.a) = sc at *
      have HSC := Hid_of hSC
      clear hSC
      have HTT : Hid (ofL (recs (x.ep + 1) 0 (few x.a)) = ofL (recs (x.ep + 1) 0 (few x.a))) := rfl
      have hq1 : ((sc : Int) * 64).tdiv 64 = (sc : Int) := by rw [Int.tdiv_eq_ediv_of_nonneg (by omega)]; omega
      have hq2 : (sc : Int) * 64 / 64 = (sc : Int) := by omega
      have hq3 : ((sc * 64 : Nat) : Int).tdiv 64 = (sc : Int) := by rw [Int.tdiv_eq_ediv_of_nonneg (by omega)]; omega
      go_upto_region 6 with fail
      rw [HW8.out]
      clear HW8
      go_wp2_with fail
      refine hwi.mono ?_
      rintro e w9 ⟨rfl, hw9⟩
      obtain rfl := hw9.symm
      clear hwi hw9
      by_cases hfit : sc ≤ hf n
      · have hdf : decide ((sc : Int) > ((hf n : Nat) : Int)) = false := decide_eq_false (by omega)
        have hdf' : decide (((hf n : Nat) : Int) < (sc : Int)) = false := decide_eq_false (by omega)
        have hccr : ccr n x = true := by rw [HEQ.out]; exact decide_eq_true hfit
        obtain ⟨W9, HW9⟩ : ∃ W9, Hid (W8.alloc (.cells #[.func (.func 70) #[] #[ptr w.heap.size, ptr B7, ptr w7.heap.size], .func (.func 73) #[ptr b] #[], .func (.func 74) #[] #[ptr w.heap.size, ptr B7]] 117) = W9) := ⟨_, Hid_of rfl⟩
        have hb9 : Below W8.heap.size W8 W9 := by rw [← HW9.out]; exact bel1 W8 _
        have hr9 : W9.heap[W8.heap.size]? = some (.cells #[.func (.func 70) #[] #[ptr w.heap.size, ptr B7, ptr w7.heap.size], .func (.func 73) #[ptr b] #[], .func (.func 74) #[] #[ptr w.heap.size, ptr B7]] 117 (0, 0)) := by rw [← HW9.out]; exact heap_alloc_last W8 _
        have hss : SS w0 w FA FD b ab db n P x w.heap.size B7 w7.heap.size W8.heap.size 0 W9 := by
          have hbb : Below w.heap.size w W9 := bel_up HB8.out hb9 (Nat.le_refl _)
          have hlt : ∀ k, fpd b FA FD k → k < w.heap.size := fun k hk => (HH.out.mine k hk).2
          refine ⟨⟨FD, HH.out.keep hbb, ⟨fun e => ?_, fun e => ?_, fun e => ?_, fun e => ?_⟩, Fr.ofBelow hbb⟩, ⟨bel_row HRB.out hb9, bel_row HR7.out hb9, bel_row HR8.out hb9, hr9⟩⟩
          · have := hlt _ e; omega
          · have := hlt _ e; omega
          · have := hlt _ e; omega
          · have := hlt _ e; have := HB8.out.size; omega
        have hdo := do_any HG.out (show secs (x.ep + 1) 0 (few x.a) ≤ hf n by rw [HSC.out]; exact hfit) HEP.out steps hss
        clear hb9 hr9 hss
        go_wp2_with fail
        rw [HW9.out]
        clear HW9
        refine hdo.mono ?_
        rintro e w10 hor
        clear hdo
        rcases hor with ⟨k, hk, hst, rfl, G, hdk, hfk⟩ | ⟨hst, rfl, hS3⟩
        · have HQ : Hid (CpO w0 w FA FD b ab db n x steps (.returned (.int .i64 16)) w10) := by
            have e1 := ccs_yes hk hst
            have e2 : ccc n x steps = 16 := by unfold ccc; rw [if_neg (by rw [hcut]; simp), if_neg (by rw [hccr]; simp), if_pos e1]
            have e3 : ccx n x steps = cutX x := by unfold ccx; rw [if_neg (by rw [hcut, hccr]; simp), if_pos e1]
            refine ⟨by rw [e2], ?_⟩
            rw [e3]
            exact ⟨FA, G, _, rs, hdk, HG.out.pk (by rw [HSC.out]; exact hfit) k hk, hfk⟩
          clear hdk hfk HH HG HEP HSC HTT HEQ HR1 HB1 HR8 HRB HR7 HB8 c2 c8
          go_wp2
          go_ret
          exact HQ.out
        · obtain ⟨⟨G, hd3, hn3, hf3⟩, hc3⟩ := hS3
          obtain ⟨⟨k0, k1, k2, k3, k4, k5, k6⟩, kf⟩ := row7 hd3.row
          have f2 := kf 2
          have f3 := kf 3
          have f4 := kf 4
          have f5 := kf 5
          have hne2 : w.heap.size ≠ b := fun e => hn3.1 (.inl e)
          have hne7 : B7 ≠ b := fun e => hn3.2.1 (.inl e)
          have hset : ∀ (w' : World) j v, (w'.heap[w.heap.size]? = some (.cells #[ptr b] 27 (0, 0)) ∧ w'.heap[B7]? = some (.cells #[.int .i64 ((1 - x.ar : Nat) : Int)] 3 (0, 0))) → ((w'.setCell ⟨b, j, none⟩ v).heap[w.heap.size]? = some (.cells #[ptr b] 27 (0, 0)) ∧ (w'.setCell ⟨b, j, none⟩ v).heap[B7]? = some (.cells #[.int .i64 ((1 - x.ar : Nat) : Int)] 3 (0, 0))) := fun w' j v hh =>
            ⟨(heap_setCell_other _ ⟨b, j, none⟩ _ _ hne2).trans hh.1, (heap_setCell_other _ ⟨b, j, none⟩ _ _ hne7).trans hh.2⟩
          have hcel : ∀ (w' : World), (w'.heap[w.heap.size]? = some (.cells #[ptr b] 27 (0, 0)) ∧ w'.heap[B7]? = some (.cells #[.int .i64 ((1 - x.ar : Nat) : Int)] 3 (0, 0))) → w'.drew.cell? ⟨w.heap.size, 0, none⟩ = some (ptr b) ∧ w'.drew.cell? ⟨B7, 0, none⟩ = some (.int .i64 ((1 - x.ar : Nat) : Int)) := fun w' hh => ⟨row1 (w := w'.drew) hh.1, row1 (w := w'.drew) hh.2⟩
          have q0 := And.intro hc3.r2 hc3.r7
          have q1 := hset w10 2 (.int .i64 ((1 - x.ar : Nat) : Int)) q0
          have q2 := hset _ 3 (.int .i64 ((x.ep : Int) + 1)) q1
          have q3 := hset _ 4 (.int .i64 ((few x.a).length : Nat)) q2
          have q4 := hset _ 5 (.int .i64 (sc : Int)) q3
          have HZ0 := Hid_of (hcel _ q0)
          have HZ1 := Hid_of (hcel _ q1)
          have HZ2 := Hid_of (hcel _ q2)
          have HZ3 := Hid_of (hcel _ q3)
          have HZ4 := Hid_of (hcel _ q4)
          have HQ : Hid (CpO w0 w FA FD b ab db n x steps (.returned (.int .i64 0)) ((((w10.setCell ⟨b, 2, none⟩ (.int .i64 ((1 - x.ar : Nat) : Int))).setCell ⟨b, 3, none⟩ (.int .i64 ((x.ep : Int) + 1))).setCell ⟨b, 4, none⟩ (.int .i64 ((few x.a).length : Nat))).setCell ⟨b, 5, none⟩ (.int .i64 (sc : Int))).drew) := by
            have e1 := ccs_no hst
            have e2 : ccc n x steps = 0 := by unfold ccc; rw [if_neg (by rw [hcut]; simp), if_neg (by rw [hccr]; simp), if_neg (by rw [e1]; simp)]
            have e3 : ccx n x steps = cmpX x := by unfold ccx; rw [if_neg (by rw [hcut, hccr]; simp), if_neg (by rw [e1]; simp)]
            have hX := hd3.chR (x' := cmpX x) (w' := (((w10.setCell ⟨b, 2, none⟩ (.int .i64 ((1 - x.ar : Nat) : Int))).setCell ⟨b, 3, none⟩ (.int .i64 ((x.ep : Int) + 1))).setCell ⟨b, 4, none⟩ (.int .i64 ((few x.a).length : Nat))).setCell ⟨b, 5, none⟩ (.int .i64 (sc : Int))) (by
              rw [heap_setCell_same _ b 5 _ _ _ (heap_setCell_same _ b 4 _ _ _ (heap_setCell_same _ b 3 _ _ _ (heap_setCell_same w10 b 2 _ _ _ hd3.row)))]
              have ex : xrow ab db x = #[ptr ab, ptr db, .int .i64 x.ar, .int .i64 x.ep, .int .i64 x.n, .int .i64 x.us, .bool false] := by
                show #[ptr ab, ptr db, .int .i64 x.ar, .int .i64 x.ep, .int .i64 x.n, .int .i64 x.us, .bool x.cut] = _
                rw [hcut]
              rw [ex]
              unfold cmpX
              rw [HSC.out]
              rfl) rfl (fr_cell (fr_cell (fr_cell (fr_cell (Fr.refl _ _) 2 _) 3 _) 4 _) 5 _)
            refine ⟨by rw [e2], ?_⟩
            rw [e3]
            exact ⟨FA, G, _, few x.a, hX.1.keep (Below.refl _ _).drew, HG.out.done (by rw [HSC.out]; exact hfit) HEP.out, (hf3.trans hX.2).trans (Fr.ofBelow (Below.refl _ _).drew)⟩
          have hwr1 : IntKind.i64.wrap ((x.ep : Int) + 1) = (x.ep : Int) + 1 := by rw [IntKind.wrap_i64]; omega
          clear hd3 hn3 hf3 hc3 kf hset hcel q0 q1 q2 q3 q4 HH HG HEP HSC HTT HEQ HR1 HB1 HR8 HRB HR7 HB8 c2 c8 k0 k1 k6
          go_upto_region 12 with fail
          refine wp_region_held_drew (S := (fun wq => wq.cell? ⟨w.heap.size, 0, none⟩ = some (ptr b) ∧ wq.cell? ⟨B7, 0, none⟩ = some (.int .i64 ((1 - x.ar : Nat) : Int)))) (by kernel_rfl) HZ0.out (fun hHeld => ?_)
          refine wpAnyH_take (i := 0) (oi := ?p0n) (v := ?v0n) ?o0n (by kernel_rfl) (by kernel_rfl) (by kernel_rfl) ?q0n ?y0n hHeld ?r0n
          case o0n => simp only [List.getElem?_toArray, List.getElem?_cons_zero]; rfl
          case q0n => exact fun _ _ _ h => h
          case y0n => (refine Or.inl ⟨rfl, ?_⟩; intro wq hq; obtain ⟨z0, z1⟩ := hq; go_simp; try with_reducible rfl)
          simp only [Act.put, List.setIfInBounds_toArray, List.set_cons_zero, List.set_cons_succ]
          refine wpAnyH_take (i := 1) (oi := ?p1n) (v := ?v1n) ?o1n (by kernel_rfl) (by kernel_rfl) (by kernel_rfl) ?q1n ?y1n hHeld ?r1n
          case o1n => simp only [List.getElem?_toArray, List.getElem?_cons_succ, List.getElem?_cons_zero]; rfl
          case q1n => exact fun _ _ _ h => h
          case y1n => (refine Or.inl ⟨rfl, ?_⟩; intro wq hq; obtain ⟨z0, z1⟩ := hq; go_simp; try with_reducible rfl)
          simp only [Act.put, List.setIfInBounds_toArray, List.set_cons_zero, List.set_cons_succ]
          refine wpAnyH_take (i := 2) (oi := ?p2n) (v := ?v2n) ?o2n (by kernel_rfl) (by kernel_rfl) (by kernel_rfl) ?q2n ?y2n hHeld ?r2n
          case o2n => simp only [List.getElem?_toArray, List.getElem?_cons_succ, List.getElem?_cons_zero]; rfl
          case q2n => exact fun _ _ _ h => h
          case y2n => (refine Or.inl ⟨rfl, ?_⟩; intro wq hq; obtain ⟨z0, z1⟩ := hq; go_simp; try with_reducible rfl)
          simp only [Act.put, List.setIfInBounds_toArray, List.set_cons_zero, List.set_cons_succ]
          refine wpAnyH_take (i := 3) (oi := ?p3n) (v := ?v3n) ?o3n (by kernel_rfl) (by kernel_rfl) (by kernel_rfl) ?q3n ?y3n hHeld ?r3n
          case o3n => simp only [List.getElem?_toArray, List.getElem?_cons_succ, List.getElem?_cons_zero]; rfl
          case q3n => exact fun _ _ _ h => h
          case y3n => (refine Or.inl ⟨rfl, ?_⟩; intro wq hq; obtain ⟨z0, z1⟩ := hq; go_simp; try with_reducible rfl)
          simp only [Act.put, List.setIfInBounds_toArray, List.set_cons_zero, List.set_cons_succ]
          refine wpAnyH_take (i := 4) (oi := ?p4n) (v := ?v4n) ?o4n (by kernel_rfl) (by kernel_rfl) (by kernel_rfl) ?q4n ?y4n hHeld ?r4n
          case o4n => simp only [List.getElem?_toArray, List.getElem?_cons_succ, List.getElem?_cons_zero]; rfl
          case q4n => exact fun _ _ _ h => h
          case y4n => (refine Or.inl ⟨rfl, ?_⟩; intro wq hq; obtain ⟨z0, z1⟩ := hq; go_simp; try with_reducible rfl)
          simp only [Act.put, List.setIfInBounds_toArray, List.set_cons_zero, List.set_cons_succ]
          refine wpAnyH_take (i := 5) (oi := ?p5n) (v := ?v5n) ?o5n (by kernel_rfl) (by kernel_rfl) (by kernel_rfl) ?q5n ?y5n hHeld ?r5n
          case o5n => simp only [List.getElem?_toArray, List.getElem?_cons_succ, List.getElem?_cons_zero]; rfl
          case q5n => exact fun _ _ _ h => h
          case y5n => (refine Or.inl ⟨rfl, ?_⟩; intro wq hq; obtain ⟨z0, z1⟩ := hq; go_simp; try with_reducible rfl)
          simp only [Act.put, List.setIfInBounds_toArray, List.set_cons_zero, List.set_cons_succ]
          refine wpAnyH_take (i := 6) (oi := ?p6n) (v := ?v6n) ?o6n (by kernel_rfl) (by kernel_rfl) (by kernel_rfl) ?q6n ?y6n hHeld ?r6n
          case o6n => simp only [List.getElem?_toArray, List.getElem?_cons_succ, List.getElem?_cons_zero]; rfl
          case q6n => exact fun _ _ _ h => h
          case y6n => (refine Or.inl ⟨rfl, ?_⟩; intro wq hq; obtain ⟨z0, z1⟩ := hq; go_simp; try with_reducible rfl)
          simp only [Act.put, List.setIfInBounds_toArray, List.set_cons_zero, List.set_cons_succ]
          refine wpAnyH_take (i := 7) (oi := ?p7n) (v := ?v7n) ?o7n (by kernel_rfl) (by kernel_rfl) (by kernel_rfl) ?q7n ?y7n hHeld ?r7n
          case o7n => simp only [List.getElem?_toArray, List.getElem?_cons_succ, List.getElem?_cons_zero]; rfl
          case q7n => exact fun _ _ _ h => h
          case y7n => (refine Or.inl ⟨rfl, ?_⟩; intro wq hq; obtain ⟨z0, z1⟩ := hq; go_simp; try with_reducible rfl)
          simp only [Act.put, List.setIfInBounds_toArray, List.set_cons_zero, List.set_cons_succ]
          refine wpAnyH_take (i := 10) (oi := ?p10n) (v := ?v10n) ?o10n (by kernel_rfl) (by kernel_rfl) (by kernel_rfl) ?q10n ?y10n hHeld ?r10n
          case o10n => simp only [List.getElem?_toArray, List.getElem?_cons_succ, List.getElem?_cons_zero]; rfl
          case q10n => exact fun _ _ _ h => h
          case y10n => (refine Or.inl ⟨rfl, ?_⟩; intro wq hq; obtain ⟨z0, z1⟩ := hq; go_simp; try with_reducible rfl)
          simp only [Act.put, List.setIfInBounds_toArray, List.set_cons_zero, List.set_cons_succ]
          refine wpAnyH_take (i := 11) (oi := ?p11n) (v := ?v11n) ?o11n (by kernel_rfl) (by kernel_rfl) (by kernel_rfl) ?q11n ?y11n hHeld ?r11n
          case o11n => simp only [List.getElem?_toArray, List.getElem?_cons_succ, List.getElem?_cons_zero]; rfl
          case q11n => exact fun _ _ _ h => h
          case y11n => (refine Or.inl ⟨rfl, ?_⟩; intro wq hq; obtain ⟨z0, z1⟩ := hq; go_simp; try with_reducible rfl)
          simp only [Act.put, List.setIfInBounds_toArray, List.set_cons_zero, List.set_cons_succ]
          refine wpAnyH_take (i := 12) (oi := ?p12n) (v := ?v12n) ?o12n (by kernel_rfl) (by kernel_rfl) (by kernel_rfl) ?q12n ?y12n hHeld ?r12n
          case o12n => simp only [List.getElem?_toArray, List.getElem?_cons_succ, List.getElem?_cons_zero]; rfl
          case q12n => exact fun _ _ _ h => h
          case y12n => (refine Or.inl ⟨rfl, ?_⟩; intro wq hq; obtain ⟨z0, z1⟩ := hq; go_simp; try with_reducible rfl)
          simp only [Act.put, List.setIfInBounds_toArray, List.set_cons_zero, List.set_cons_succ]
          refine wpAnyH_ready (rs := [8]) (by kernel_rfl) (by simp) ?_
          refine AllReadyH.cons (o := ?p8n) ?o8n ?s8n AllReadyH.nil
          case o8n => simp only [List.getElem?_toArray, List.getElem?_cons_succ, List.getElem?_cons_zero]; rfl
          intro K hK
          go_simp
          go_simp
          refine hK.out _ _ hHeld (fun hHeld => ?_)
          clear hK K
          refine wpAnyH_take (i := 9) (oi := ?p9n) (v := ?v9n) ?o9n (by kernel_rfl) (by kernel_rfl) (by kernel_rfl) ?q9n ?y9n hHeld ?r9n
          case o9n => simp only [List.getElem?_toArray, List.getElem?_cons_succ, List.getElem?_cons_zero]; rfl
          case q9n => exact fun _ _ _ h => h
          case y9n => (refine Or.inl ⟨rfl, ?_⟩; intro wq hq; obtain ⟨z0, z1⟩ := hq; go_simp; try with_reducible rfl)
          simp only [Act.put, List.setIfInBounds_toArray, List.set_cons_zero, List.set_cons_succ]
          refine wpAnyH_take (i := 13) (oi := ?p13n) (v := ?v13n) ?o13n (by kernel_rfl) (by kernel_rfl) (by kernel_rfl) ?q13n ?y13n hHeld ?r13n
          case o13n => simp only [List.getElem?_toArray, List.getElem?_cons_succ, List.getElem?_cons_zero]; rfl
          case q13n => exact fun _ _ _ h => h
          case y13n => (refine Or.inl ⟨rfl, ?_⟩; intro wq hq; obtain ⟨z0, z1⟩ := hq; go_simp; try with_reducible rfl)
          simp only [Act.put, List.setIfInBounds_toArray, List.set_cons_zero, List.set_cons_succ]
          refine wpAnyH_take (i := 14) (oi := ?p14n) (v := ?v14n) ?o14n (by kernel_rfl) (by kernel_rfl) (by kernel_rfl) ?q14n ?y14n hHeld ?r14n
          case o14n => simp only [List.getElem?_toArray, List.getElem?_cons_succ, List.getElem?_cons_zero]; rfl
          case q14n => exact fun _ _ _ h => h
          case y14n => (refine Or.inl ⟨rfl, ?_⟩; intro wq hq; obtain ⟨z0, z1⟩ := hq; go_simp; try with_reducible rfl)
          simp only [Act.put, List.setIfInBounds_toArray, List.set_cons_zero, List.set_cons_succ]
          refine wpAnyH_ready (rs := [15]) (by kernel_rfl) (by simp) ?_
          refine AllReadyH.cons (o := ?p15n) ?o15n ?s15n AllReadyH.nil
          case o15n => simp only [List.getElem?_toArray, List.getElem?_cons_succ, List.getElem?_cons_zero]; rfl
          intro K hK
          go_simp
          go_simp
          refine hK.out _ _ HZ1.out (fun hHeld => ?_)
          clear hK K
          refine wpAnyH_take (i := 16) (oi := ?p16n) (v := ?v16n) ?o16n (by kernel_rfl) (by kernel_rfl) (by kernel_rfl) ?q16n ?y16n hHeld ?r16n
          case o16n => simp only [List.getElem?_toArray, List.getElem?_cons_succ, List.getElem?_cons_zero]; rfl
          case q16n => exact fun _ _ _ h => h
          case y16n => (refine Or.inl ⟨rfl, ?_⟩; intro wq hq; obtain ⟨z0, z1⟩ := hq; go_simp; try with_reducible rfl)
          simp only [Act.put, List.setIfInBounds_toArray, List.set_cons_zero, List.set_cons_succ]
          refine wpAnyH_take (i := 17) (oi := ?p17n) (v := ?v17n) ?o17n (by kernel_rfl) (by kernel_rfl) (by kernel_rfl) ?q17n ?y17n hHeld ?r17n
          case o17n => simp only [List.getElem?_toArray, List.getElem?_cons_succ, List.getElem?_cons_zero]; rfl
          case q17n => exact fun _ _ _ h => h
          case y17n => (refine Or.inl ⟨rfl, ?_⟩; intro wq hq; obtain ⟨z0, z1⟩ := hq; go_simp; try with_reducible rfl)
          simp only [Act.put, List.setIfInBounds_toArray, List.set_cons_zero, List.set_cons_succ]
          refine wpAnyH_ready (rs := [18]) (by kernel_rfl) (by simp) ?_
          refine AllReadyH.cons (o := ?p18n) ?o18n ?s18n AllReadyH.nil
          case o18n => simp only [List.getElem?_toArray, List.getElem?_cons_succ, List.getElem?_cons_zero]; rfl
          intro K hK
          go_simp
          go_simp
          refine hK.out _ _ HZ2.out (fun hHeld => ?_)
          clear hK K
          refine wpAnyH_take (i := 19) (oi := ?p19n) (v := ?v19n) ?o19n (by kernel_rfl) (by kernel_rfl) (by kernel_rfl) ?q19n ?y19n hHeld ?r19n
          case o19n => simp only [List.getElem?_toArray, List.getElem?_cons_succ, List.getElem?_cons_zero]; rfl
          case q19n => exact fun _ _ _ h => h
          case y19n => (refine Or.inl ⟨rfl, ?_⟩; intro wq hq; obtain ⟨z0, z1⟩ := hq; go_simp; try with_reducible rfl)
          simp only [Act.put, List.setIfInBounds_toArray, List.set_cons_zero, List.set_cons_succ]
          refine wpAnyH_take (i := 20) (oi := ?p20n) (v := ?v20n) ?o20n (by kernel_rfl) (by kernel_rfl) (by kernel_rfl) ?q20n ?y20n hHeld ?r20n
          case o20n => simp only [List.getElem?_toArray, List.getElem?_cons_succ, List.getElem?_cons_zero]; rfl
          case q20n => exact fun _ _ _ h => h
          case y20n => (refine Or.inl ⟨rfl, ?_⟩; intro wq hq; obtain ⟨z0, z1⟩ := hq; go_simp; try with_reducible rfl)
          simp only [Act.put, List.setIfInBounds_toArray, List.set_cons_zero, List.set_cons_succ]
          refine wpAnyH_ready (rs := [21]) (by kernel_rfl) (by simp) ?_
          refine AllReadyH.cons (o := ?p21n) ?o21n ?s21n AllReadyH.nil
          case o21n => simp only [List.getElem?_toArray, List.getElem?_cons_succ, List.getElem?_cons_zero]; rfl
          intro K hK
          go_simp
          go_simp
          refine hK.out _ _ HZ3.out (fun hHeld => ?_)
          clear hK K
          refine wpAnyH_take (i := 22) (oi := ?p22n) (v := ?v22n) ?o22n (by kernel_rfl) (by kernel_rfl) (by kernel_rfl) ?q22n ?y22n hHeld ?r22n
          case o22n => simp only [List.getElem?_toArray, List.getElem?_cons_succ, List.getElem?_cons_zero]; rfl
          case q22n => exact fun _ _ _ h => h
          case y22n => (refine Or.inl ⟨rfl, ?_⟩; intro wq hq; obtain ⟨z0, z1⟩ := hq; go_simp; try with_reducible rfl)
          simp only [Act.put, List.setIfInBounds_toArray, List.set_cons_zero, List.set_cons_succ]
          refine wpAnyH_take (i := 23) (oi := ?p23n) (v := ?v23n) ?o23n (by kernel_rfl) (by kernel_rfl) (by kernel_rfl) ?q23n ?y23n hHeld ?r23n
          case o23n => simp only [List.getElem?_toArray, List.getElem?_cons_succ, List.getElem?_cons_zero]; rfl
          case q23n => exact fun _ _ _ h => h
          case y23n => (refine Or.inl ⟨rfl, ?_⟩; intro wq hq; obtain ⟨z0, z1⟩ := hq; go_simp; try with_reducible rfl)
          simp only [Act.put, List.setIfInBounds_toArray, List.set_cons_zero, List.set_cons_succ]
          refine wpAnyH_ready (rs := [24]) (by kernel_rfl) (by simp) ?_
          refine AllReadyH.cons (o := ?p24n) ?o24n ?s24n AllReadyH.nil
          case o24n => simp only [List.getElem?_toArray, List.getElem?_cons_succ, List.getElem?_cons_zero]; rfl
          intro K hK
          go_simp
          go_simp
          refine hK.out _ _ HZ4.out (fun hHeld => ?_)
          clear hK K
          refine wpAnyH_done (by kernel_rfl) ?_ _
          go_wp2
          go_ret
          exact HQ.out
      · have hdf : decide ((sc : Int) > ((hf n : Nat) : Int)) = true := decide_eq_true (by omega)
        have hdf' : decide (((hf n : Nat) : Int) < (sc : Int)) = true := decide_eq_true (by omega)
        have HQ : Hid (CpO w0 w FA FD b ab db n x steps (.returned (.int .i64 5)) W8) := by
          have hccr : ccr n x = false := by rw [HEQ.out]; exact decide_eq_false hfit
          have e2 : ccc n x steps = 5 := by unfold ccc; rw [if_neg (by rw [hcut]; simp), if_pos hccr]
          have e3 : ccx n x steps = x := by unfold ccx; rw [if_pos (.inr hccr)]
          refine ⟨by rw [e2], ?_⟩
          rw [e3]
          exact Chg.same HH.out HG.out HB8.out
        clear HH HG HEP HSC HTT HEQ HR1 HB1 HR8 HRB HR7 HB8 c2 c8
        go_wp2
        go_ret
        exact HQ.out
end
end Go.Proofs.YtlnedgjikkhplaaGreat.Du
