/-
  The document's text of a group.
-/
import Derived.Test.YtacfndfkoiifhaaFB
import Derived.Test.YtacfndfkoiifhaaP
namespace Go.Proofs.Ytacfndfkoiifhaa
open Go.RowKit
set_option linter.unusedVariables false
open Mb (S)

section
variable {w : World} {aL aS : Option Addr} {cL cS : Nat} {s : S}
set_option maxRecDepth 100000 in
set_option maxHeartbeats 4000000 in
theorem rtextQ_any (q : Bool) (hq : s.fl = q) (h : XD w aL cL aS cS s) (g : Mb.G s) (he : s.ep ≤ 9223372036854775807) : Calls Try.prog 19 #[.agg #[.slice aL s.l.length cL, .slice aS s.sp.length cS, .int .i64 s.ep, .int .i64 s.hole, .bool q, .int .i64 s.gone]] w fun e w' => e = .returned (.string (ofL (Mb.txt s))) ∧ Below w.heap.size w w' := by
  obtain ⟨n1, n2, n3, n4, n5, n6, n7⟩ := g.bnd he
  obtain ⟨W1, HW1⟩ : ∃ W1, Hid (w.alloc (.cells #[.slice aL s.l.length cL, .slice aS s.sp.length cS, .int .i64 s.ep, .int .i64 s.hole, .bool q, .int .i64 s.gone] 31) = W1) := ⟨_, rfl⟩
  have HB1 : Hid (Below w.heap.size w W1) := by rw [← HW1.out]; exact bel1 w _
  have hx1 : W1.heap[w.heap.size]? = some (.cells #[.slice aL s.l.length cL, .slice aS s.sp.length cS, .int .i64 s.ep, .int .i64 s.hole, .bool q, .int .i64 s.gone] 31 (0, 0)) := by rw [← HW1.out]; exact heap_alloc_last w _
  have h1 := h.keep HB1.out
  obtain ⟨b1, e1⟩ : ∃ b1, Hid (ofL (M.enc s.ep) = b1) := ⟨_, rfl⟩
  obtain ⟨b2, e2⟩ : ∃ b2, Hid (ofL (M.enc s.hole) = b2) := ⟨_, rfl⟩
  obtain ⟨b3, e3⟩ : ∃ b3, Hid (ofL (M.enc s.gone) = b3) := ⟨_, rfl⟩
  obtain ⟨b4, e4⟩ : ∃ b4, Hid (ofL (M.encIs s.l) = b4) := ⟨_, rfl⟩
  obtain ⟨b5, e5⟩ : ∃ b5, Hid (ofL (M.encIs s.sp) = b5) := ⟨_, rfl⟩
  obtain ⟨l1, l2, l3, l4, l5, l6, l7, l8, l9, l10⟩ := Mb.t_len g he
  have s1 : b1.size ≤ 1000 := by rw [← e1.out, ofL_size]; have : (Mb.t1 s).length = (M.enc s.ep).length := rfl; omega
  have s2 : b2.size ≤ 1000 := by rw [← e2.out, ofL_size]; omega
  have s3 : b3.size ≤ 1000 := by rw [← e3.out, ofL_size]; omega
  have s4 : b4.size ≤ 1000 := by rw [← e4.out, ofL_size]; omega
  have s5 : b5.size ≤ 1000 := by rw [← e5.out, ofL_size]; omega
  have r2 : ¬ (9223372036854775807 < b1.size + b2.size) := by omega
  have r3 : ¬ (9223372036854775807 < b1.size + b2.size + 1) := by omega
  have r4 : ¬ (9223372036854775807 < b1.size + b2.size + 1 + b3.size) := by omega
  have r5 : ¬ (9223372036854775807 < b1.size + b2.size + 1 + b3.size + b4.size) := by omega
  have r6 : ¬ (9223372036854775807 < b1.size + b2.size + 1 + b3.size + b4.size + b5.size) := by omega
  clear l1 l2 l3 l4 l5 l6 l7 l8 l9 l10 s1 s2 s3 s4 s5
  have HSUM : Hid (∀ f : ByteArray, f = ofL [Mb.bit q] → b1 ++ (b2 ++ (f ++ (b3 ++ (b4 ++ b5)))) = ofL (Mb.txt s)) := Hid_of fun f hf => by
    subst hf
    rw [← e1.out, ← e2.out, ← e3.out, ← e4.out, ← e5.out, ofL_app, ofL_app, ofL_app, ofL_app, ofL_app, ← hq]
    rfl
  have HT1 : Hid (∀ wq, Below W1.heap.size W1 wq → Calls Try.prog 40 #[.int .i64 s.ep] wq fun x w' => x = .returned (.string b1) ∧ Below wq.heap.size wq w') := Hid_of fun wq _ => by rw [← e1.out]; exact refInt_any s.ep wq n1
  have HT2 : Hid (∀ wq, Below W1.heap.size W1 wq → Calls Try.prog 40 #[.int .i64 s.hole] wq fun x w' => x = .returned (.string b2) ∧ Below wq.heap.size wq w') := Hid_of fun wq _ => by rw [← e2.out]; exact refInt_any s.hole wq n2
  have HT3 : Hid (∀ wq, Below W1.heap.size W1 wq → Calls Try.prog 40 #[.int .i64 s.gone] wq fun x w' => x = .returned (.string b3) ∧ Below wq.heap.size wq w') := Hid_of fun wq _ => by rw [← e3.out]; exact refInt_any s.gone wq n3
  have HT4 : Hid (∀ wq, Below W1.heap.size W1 wq → Calls Try.prog 41 #[.slice aL s.l.length cL] wq fun x w' => x = .returned (.string b4) ∧ Below wq.heap.size wq w') := Hid_of fun wq hw => by rw [← e4.out]; exact refInts_any aL cL s.l wq (at_of (h1.xl.at'.keep hw)) (by omega) n6
  have HT5 : Hid (∀ wq, Below W1.heap.size W1 wq → Calls Try.prog 41 #[.slice aS s.sp.length cS] wq fun x w' => x = .returned (.string b5) ∧ Below wq.heap.size wq w') := Hid_of fun wq hw => by rw [← e5.out]; exact refInts_any aS cS s.sp wq (at_of (h1.xs.at'.keep hw)) (by omega) n7
  have HS : Hid (∀ wq, Below W1.heap.size W1 wq → wq.cell? ⟨w.heap.size, 0, none⟩ = some (.slice aL s.l.length cL) ∧ wq.cell? ⟨w.heap.size, 1, none⟩ = some (.slice aS s.sp.length cS) ∧ wq.cell? ⟨w.heap.size, 2, none⟩ = some (.int .i64 s.ep) ∧ wq.cell? ⟨w.heap.size, 3, none⟩ = some (.int .i64 s.hole) ∧ wq.cell? ⟨w.heap.size, 4, none⟩ = some (.bool q) ∧ wq.cell? ⟨w.heap.size, 5, none⟩ = some (.int .i64 s.gone)) := Hid_of fun wq hw => (row6 (bel_row hx1 hw)).1
  obtain ⟨-, -, -, -, x4, -⟩ := (row6 hx1).1
  clear h h1 hx1 n1 n2 n3 n4 n5 n6 n7 g he hq e1 e2 e3 e4 e5
  cases q with
  | false =>
    go_enter Try.func19, Try.ntmps19
    go_upto_region 1 with fail
    rw [HW1.out]
    clear HW1
    go_wp2_with fail
    refine wp_region_held_drew (S := fun wq => Below (W1).heap.size (W1) wq) (by kernel_rfl) (Below.drew (Below.refl _ _)) (fun hHeld => ?_)
    obtain ⟨wdx, hwdx⟩ : ∃ wd, W1.drew = wd := ⟨_, rfl⟩
    have hBwd : Below W1.heap.size W1 wdx := by rw [← hwdx]; exact Below.drew (Below.refl _ _)
    rw [hwdx] at hHeld ⊢
    clear hwdx
    refine Tm 0 ?p0x ?v0x hHeld ?r0x
    refine Tk 1 ?p1x ?v1x ?y1x hHeld ?r1x
    case y1x => intro wq hq; obtain ⟨z0, z1, z2, z3, z4, z5⟩ := HS.out wq hq; go_simp; try with_reducible rfl
    refine Tm 3 ?p3x ?v3x hHeld ?r3x
    refine Tk 4 ?p4x ?v4x ?y4x hHeld ?r4x
    case y4x => intro wq hq; obtain ⟨z0, z1, z2, z3, z4, z5⟩ := HS.out wq hq; go_simp; try with_reducible rfl
    refine Tm 7 ?p7x ?v7x hHeld ?r7x
    refine Tm 9 ?p9x ?v9x hHeld ?r9x
    refine Tk 10 ?p10x ?v10x ?y10x hHeld ?r10x
    case y10x => intro wq hq; obtain ⟨z0, z1, z2, z3, z4, z5⟩ := HS.out wq hq; go_simp; try with_reducible rfl
    refine Tm 13 ?p13x ?v13x hHeld ?r13x
    refine Tk 14 ?p14x ?v14x ?y14x hHeld ?r14x
    case y14x => intro wq hq; obtain ⟨z0, z1, z2, z3, z4, z5⟩ := HS.out wq hq; go_simp; try with_reducible rfl
    refine Tm 17 ?p17x ?v17x hHeld ?r17x
    refine Tk 18 ?p18x ?v18x ?y18x hHeld ?r18x
    case y18x => intro wq hq; obtain ⟨z0, z1, z2, z3, z4, z5⟩ := HS.out wq hq; go_simp; try with_reducible rfl
    simp only [Act.put, Pa, Pb, Pc]
    refine Rd 2 ?p2x ?s2x
    intro K hK
    go_simp
    refine (HT1.out _ hHeld).mono ?_
    rintro e v1 ⟨rfl, hbv1⟩
    have hq1 := bel_up hHeld hbv1 (Nat.le_refl _)
    clear hbv1
    refine hK.out _ _ hq1 (fun hHeld => ?_)
    clear hK K
    refine Rd 5 ?p5x_2 ?s5x_2
    intro K hK
    go_simp
    refine (HT2.out _ hHeld).mono ?_
    rintro e v2 ⟨rfl, hbv2⟩
    have hq2 := bel_up hHeld hbv2 (Nat.le_refl _)
    clear hbv2
    refine hK.out _ _ hq2 (fun hHeld => ?_)
    clear hK K
    refine Tm 6 ?p6x_2_5 ?v6x_2_5 hHeld ?r6x_2_5
    refine Tm 8 ?p8x_2_5 ?v8x_2_5 hHeld ?r8x_2_5
    simp only [Act.put, Pa, Pb, Pc]
    refine Rd 11 ?p11x_2_5 ?s11x_2_5
    intro K hK
    go_simp
    refine (HT3.out _ hHeld).mono ?_
    rintro e v3 ⟨rfl, hbv3⟩
    have hq3 := bel_up hHeld hbv3 (Nat.le_refl _)
    clear hbv3
    refine hK.out _ _ hq3 (fun hHeld => ?_)
    clear hK K
    refine Tm 12 ?p12x_2_5_11 ?v12x_2_5_11 hHeld ?r12x_2_5_11
    simp only [Act.put, Pa, Pb, Pc]
    refine Rd 15 ?p15x_2_5_11 ?s15x_2_5_11
    intro K hK
    go_simp
    refine (HT4.out _ hHeld).mono ?_
    rintro e v4 ⟨rfl, hbv4⟩
    have hq4 := bel_up hHeld hbv4 (Nat.le_refl _)
    clear hbv4
    refine hK.out _ _ hq4 (fun hHeld => ?_)
    clear hK K
    refine Tm 16 ?p16x_2_5_11_15 ?v16x_2_5_11_15 hHeld ?r16x_2_5_11_15
    simp only [Act.put, Pa, Pb, Pc]
    refine Rd 19 ?p19x_2_5_11_15 ?s19x_2_5_11_15
    intro K hK
    go_simp
    refine (HT5.out _ hHeld).mono ?_
    rintro e v5 ⟨rfl, hbv5⟩
    have hq5 := bel_up hHeld hbv5 (Nat.le_refl _)
    clear hbv5
    refine hK.out _ _ hq5 (fun hHeld => ?_)
    clear hK K
    refine Tm 20 ?p20x_2_5_11_15_19 ?v20x_2_5_11_15_19 hHeld ?r20x_2_5_11_15_19
    refine Tm 21 ?p21x_2_5_11_15_19 ?v21x_2_5_11_15_19 hHeld ?r21x_2_5_11_15_19
    simp only [Act.put, Pa, Pb, Pc]
    refine wpAnyH_done (by kernel_rfl) ?_ _
    have HB := Hid_of (bel_up HB1.out hq5 (Nat.le_refl _))
    clear hq5
    go_wp2
    go_ret
    refine ⟨?_, HB.out⟩
    simp only [ByteArray.append_assoc]
    exact congrArg (fun z => Ending.returned (.string z)) (HSUM.out _ rfl)
  | true =>
    go_enter Try.func19, Try.ntmps19
    go_upto_region 1 with fail
    rw [HW1.out]
    clear HW1
    go_wp2_with fail
    refine wp_region_held_drew (S := fun wq => Below (W1).heap.size (W1) wq) (by kernel_rfl) (Below.drew (Below.refl _ _)) (fun hHeld => ?_)
    obtain ⟨wdy, hwdy⟩ : ∃ wd, W1.drew = wd := ⟨_, rfl⟩
    have hBwd : Below W1.heap.size W1 wdy := by rw [← hwdy]; exact Below.drew (Below.refl _ _)
    rw [hwdy] at hHeld ⊢
    clear hwdy
    refine Tm 0 ?p0y ?v0y hHeld ?r0y
    refine Tk 1 ?p1y ?v1y ?y1y hHeld ?r1y
    case y1y => intro wq hq; obtain ⟨z0, z1, z2, z3, z4, z5⟩ := HS.out wq hq; go_simp; try with_reducible rfl
    refine Tm 3 ?p3y ?v3y hHeld ?r3y
    refine Tk 4 ?p4y ?v4y ?y4y hHeld ?r4y
    case y4y => intro wq hq; obtain ⟨z0, z1, z2, z3, z4, z5⟩ := HS.out wq hq; go_simp; try with_reducible rfl
    refine Tm 7 ?p7y ?v7y hHeld ?r7y
    refine Tm 9 ?p9y ?v9y hHeld ?r9y
    refine Tk 10 ?p10y ?v10y ?y10y hHeld ?r10y
    case y10y => intro wq hq; obtain ⟨z0, z1, z2, z3, z4, z5⟩ := HS.out wq hq; go_simp; try with_reducible rfl
    refine Tm 13 ?p13y ?v13y hHeld ?r13y
    refine Tk 14 ?p14y ?v14y ?y14y hHeld ?r14y
    case y14y => intro wq hq; obtain ⟨z0, z1, z2, z3, z4, z5⟩ := HS.out wq hq; go_simp; try with_reducible rfl
    refine Tm 17 ?p17y ?v17y hHeld ?r17y
    refine Tk 18 ?p18y ?v18y ?y18y hHeld ?r18y
    case y18y => intro wq hq; obtain ⟨z0, z1, z2, z3, z4, z5⟩ := HS.out wq hq; go_simp; try with_reducible rfl
    simp only [Act.put, Pa, Pb, Pc]
    refine Rd 2 ?p2y ?s2y
    intro K hK
    go_simp
    refine (HT1.out _ hHeld).mono ?_
    rintro e v1 ⟨rfl, hbv1⟩
    have hq1 := bel_up hHeld hbv1 (Nat.le_refl _)
    clear hbv1
    refine hK.out _ _ hq1 (fun hHeld => ?_)
    clear hK K
    refine Rd 5 ?p5y_2 ?s5y_2
    intro K hK
    go_simp
    refine (HT2.out _ hHeld).mono ?_
    rintro e v2 ⟨rfl, hbv2⟩
    have hq2 := bel_up hHeld hbv2 (Nat.le_refl _)
    clear hbv2
    refine hK.out _ _ hq2 (fun hHeld => ?_)
    clear hK K
    refine Tm 6 ?p6y_2_5 ?v6y_2_5 hHeld ?r6y_2_5
    refine Tm 8 ?p8y_2_5 ?v8y_2_5 hHeld ?r8y_2_5
    simp only [Act.put, Pa, Pb, Pc]
    refine Rd 11 ?p11y_2_5 ?s11y_2_5
    intro K hK
    go_simp
    refine (HT3.out _ hHeld).mono ?_
    rintro e v3 ⟨rfl, hbv3⟩
    have hq3 := bel_up hHeld hbv3 (Nat.le_refl _)
    clear hbv3
    refine hK.out _ _ hq3 (fun hHeld => ?_)
    clear hK K
    refine Tm 12 ?p12y_2_5_11 ?v12y_2_5_11 hHeld ?r12y_2_5_11
    simp only [Act.put, Pa, Pb, Pc]
    refine Rd 15 ?p15y_2_5_11 ?s15y_2_5_11
    intro K hK
    go_simp
    refine (HT4.out _ hHeld).mono ?_
    rintro e v4 ⟨rfl, hbv4⟩
    have hq4 := bel_up hHeld hbv4 (Nat.le_refl _)
    clear hbv4
    refine hK.out _ _ hq4 (fun hHeld => ?_)
    clear hK K
    refine Tm 16 ?p16y_2_5_11_15 ?v16y_2_5_11_15 hHeld ?r16y_2_5_11_15
    simp only [Act.put, Pa, Pb, Pc]
    refine Rd 19 ?p19y_2_5_11_15 ?s19y_2_5_11_15
    intro K hK
    go_simp
    refine (HT5.out _ hHeld).mono ?_
    rintro e v5 ⟨rfl, hbv5⟩
    have hq5 := bel_up hHeld hbv5 (Nat.le_refl _)
    clear hbv5
    refine hK.out _ _ hq5 (fun hHeld => ?_)
    clear hK K
    refine Tm 20 ?p20y_2_5_11_15_19 ?v20y_2_5_11_15_19 hHeld ?r20y_2_5_11_15_19
    refine Tm 21 ?p21y_2_5_11_15_19 ?v21y_2_5_11_15_19 hHeld ?r21y_2_5_11_15_19
    simp only [Act.put, Pa, Pb, Pc]
    refine wpAnyH_done (by kernel_rfl) ?_ _
    have HB := Hid_of (bel_up HB1.out hq5 (Nat.le_refl _))
    clear hq5
    go_wp2
    go_ret
    refine ⟨?_, HB.out⟩
    simp only [ByteArray.append_assoc]
    exact congrArg (fun z => Ending.returned (.string z)) (HSUM.out _ rfl)

theorem rtext_any (h : XD w aL cL aS cS s) (g : Mb.G s) (he : s.ep ≤ 9223372036854775807) : Calls Try.prog 19 #[mV aL cL aS cS s] w fun e w' => e = .returned (.string (ofL (Mb.txt s))) ∧ Below w.heap.size w w' := rtextQ_any s.fl rfl h g he
end
end Go.Proofs.Ytacfndfkoiifhaa
