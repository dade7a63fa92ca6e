/-
  What was said is done, whatever it is; a note is taken.
-/
import Derived.Test.YtgodnpngdbelhaaG23
namespace Go.Proofs.Ytgodnpngdbelhaa
open Go.RowKit Go.Maps
set_option linter.unusedVariables false
open M (E V)
open Rm (NT R)

section
variable {w0 w : World} {b ba bp bl : Nat} {Fa Fp Fl : Nat → Prop} {r : R}
theorem kd_cases (x : NT) : Rm.kd x = 1 ∨ Rm.kd x = 2 ∨ (Rm.kd x = 3 ∧ x.v.length = 1) ∨ (Rm.kd x = 4 ∧ x.v.length = 1) ∨ Rm.kd x = 5 ∨ Rm.kd x = 6 ∨ Rm.kd x = 0 := by
  unfold Rm.kd
  split
  · exact .inl rfl
  split
  · exact .inr (.inl rfl)
  split
  · next h => exact .inr (.inr (.inl ⟨rfl, h.2⟩))
  split
  · next h => exact .inr (.inr (.inr (.inl ⟨rfl, h.2⟩)))
  split
  · exact .inr (.inr (.inr (.inr (.inl rfl))))
  split
  · exact .inr (.inr (.inr (.inr (.inr (.inl rfl)))))
  · exact .inr (.inr (.inr (.inr (.inr (.inr rfl)))))
theorem RP.do_any (h : RP w0 w b ba bp bl Fa Fp Fl r) (y : RN) (hx : XL vl w y.ad y.c y.x.v) (hap : 0 < y.x.v.length → ∀ k, blk y.ad k → k < w.heap.size ∧ ¬ uni b Fa Fp Fl k) (hwf : ∀ x ∈ y.x.v, (Lit.int .i64 x.s).wf = true) (hc1 : r.p.c + y.x.v.length ≤ 900000) (hc2 : r.l.c + y.x.v.length ≤ 900000) :
    Calls Try.prog 55 #[ptr b, sdV y] w (OutN w0 w (uni b Fa Fp Fl) b (Rm.doS r y.x) (Rm.doN r y.x)) := by
  obtain ⟨⟨k, f, t, s, ⟨bi, bt⟩, v⟩, ad, c⟩ := y
  simp only at hx hap hwf hc1 hc2
  rcases kd_cases ⟨k, f, t, s, ⟨bi, bt⟩, v⟩ with e | e | ⟨e, hl⟩ | ⟨e, hl⟩ | e | e | e
  · rw [sdV_of e]; unfold Rm.doS Rm.doN; rw [e]; exact h.do1 f s ⟨bi, bt⟩
  · rw [sdV_of e]; unfold Rm.doS Rm.doN; rw [e]; exact h.do2 f ⟨bi, bt⟩ ad c v hx hap hc1
  · obtain ⟨x, rfl⟩ := List.length_eq_one_iff.1 hl
    rw [sdV_of e]; unfold Rm.doS Rm.doN; rw [e]; exact h.do3 x
  · obtain ⟨x, rfl⟩ := List.length_eq_one_iff.1 hl
    rw [sdV_of e]; unfold Rm.doS Rm.doN; rw [e]; exact h.do4 f x (hwf x (by simp)) (by simp at hc2; omega)
  · rw [sdV_of e]; unfold Rm.doS Rm.doN; rw [e]; exact h.do5 f s
  · rw [sdV_of e]; unfold Rm.doS Rm.doN; rw [e]; exact h.do6 ad c v hx hap hwf hc2
  · rw [sdV_of e]; unfold Rm.doS Rm.doN; rw [e]; exact h.do0
set_option maxRecDepth 100000 in
set_option maxHeartbeats 2000000 in
theorem RP.take (h : RP w0 w b ba bp bl Fa Fp Fl r) (y : RN) (hx : XL vl w y.ad y.c y.x.v) (hap : 0 < y.x.v.length → ∀ k, blk y.ad k → k < w.heap.size ∧ ¬ uni b Fa Fp Fl k) (hwf : ∀ x ∈ y.x.v, (Lit.int .i64 x.s).wf = true) (hc1 : r.p.c + y.x.v.length ≤ 900000) (hc2 : r.l.c + y.x.v.length ≤ 900000) :
    Calls Try.prog 36 #[ptr b, nV y] w (OutN w0 w (uni b Fa Fp Fl) b (Rm.tkS r y.x) (Rm.tkN r y.x)) := by
  obtain ⟨⟨k, f, t, s, ⟨bi, bt⟩, v⟩, ad, c⟩ := y
  simp only at hx hap hwf hc1 hc2
  obtain ⟨W1, HW1⟩ : ∃ W1, Hid (w.alloc (.cells #[.int .i64 k, .int .i64 f, .int .i64 t, .int .i64 s, .int .i64 bi, .int .i64 bt, .slice ad v.length c] 63) = W1) := ⟨_, Hid_of rfl⟩
  have hb1 : Below w.heap.size w W1 := by rw [← HW1.out]; exact bel1 w _
  have hz1 : W1.heap[w.heap.size]? = some (.cells #[.int .i64 k, .int .i64 f, .int .i64 t, .int .i64 s, .int .i64 bi, .int .i64 bt, .slice ad v.length c] 63 (0, 0)) := by rw [← HW1.out]; exact heap_alloc_last w _
  obtain ⟨g, hg⟩ : ∃ g, w.heap.size = g := ⟨_, rfl⟩
  rw [hg] at hz1
  have hnu : ¬ uni b Fa Fp Fl g := fun e => by have := (h.mine _ e).2; omega
  have H1 := Hid_of (h.keep hb1)
  have HZ1 := Hid_of hz1
  have HB1 := Hid_of hb1
  have HG := Hid_of hg
  have HX := Hid_of hx
  have HAP := Hid_of hap
  have HWF := Hid_of hwf
  have HC1 := Hid_of hc1
  have HC2 := Hid_of hc2
  obtain ⟨SQ, HSQ⟩ : ∃ SQ : World → Prop, Hid (SQ = fun wq => wq.heap[b]? = some (rrow r ba bp bl) ∧ wq.heap[g]? = some (.cells #[.int .i64 k, .int .i64 f, .int .i64 t, .int .i64 s, .int .i64 bi, .int .i64 bt, .slice ad v.length c] 63 (0, 0))) := ⟨_, Hid_of rfl⟩
  have HS : Hid (∀ wq, SQ wq → (wq.cell? ⟨b, 0, none⟩ = some (.int .i64 r.n) ∧ wq.cell? ⟨b, 1, none⟩ = some (.int .i64 r.me) ∧ wq.cell? ⟨b, 2, none⟩ = some (ptr ba) ∧ wq.cell? ⟨b, 3, none⟩ = some (ptr bp) ∧ wq.cell? ⟨b, 4, none⟩ = some (ptr bl)) ∧ (wq.cell? ⟨g, 0, none⟩ = some (.int .i64 k) ∧ wq.cell? ⟨g, 1, none⟩ = some (.int .i64 f) ∧ wq.cell? ⟨g, 2, none⟩ = some (.int .i64 t) ∧ wq.cell? ⟨g, 3, none⟩ = some (.int .i64 s) ∧ wq.cell? ⟨g, 4, none⟩ = some (.int .i64 bi) ∧ wq.cell? ⟨g, 5, none⟩ = some (.int .i64 bt) ∧ wq.cell? ⟨g, 6, none⟩ = some (.slice ad v.length c))) := fun wq hq => by
    rw [HSQ.out] at hq
    exact ⟨(row5 hq.1).1, (row7 hq.2).1⟩
  have SK : Hid (∀ w', w'.heap[b]? = some (rrow r ba bp bl) → w'.heap[g]? = some (.cells #[.int .i64 k, .int .i64 f, .int .i64 t, .int .i64 s, .int .i64 bi, .int .i64 bt, .slice ad v.length c] 63 (0, 0)) → SQ w') := fun w' h1 h2 => by rw [HSQ.out]; exact ⟨h1, h2⟩
  clear HSQ
  have HSI : Hid (SQ W1.drew) := SK.out _ H1.out.row hz1
  simp only [nV]
  clear h hb1 hz1 hx hap hwf hc1 hc2 hg
  by_cases ht : t = r.me
  · subst ht
    cases hi : Rm.isN r f with
    | false =>
      have HTB : Rm.tkb r ⟨k, f, r.me, s, ⟨bi, bt⟩, v⟩ = false := by unfold Rm.tkb; simp only; rw [hi, Bool.and_false]
      have HQ : Hid (∀ w', Below W1.heap.size W1 w' → OutN w0 w (uni b Fa Fp Fl) b (Rm.tkS r ⟨k, f, r.me, s, ⟨bi, bt⟩, v⟩) (Rm.tkN r ⟨k, f, r.me, s, ⟨bi, bt⟩, v⟩) (.returned (.slice none 0 0)) w') := fun w' hw' => by
        have hb : Rm.tkb r ⟨k, f, r.me, s, ⟨bi, bt⟩, v⟩ = false := HTB
        unfold Rm.tkS Rm.tkN
        rw [hb]
        exact OutN.self (H1.out.keep hw').rs (Fr.ofBelow (bel_up HB1.out hw' (Nat.le_refl _)))
      clear HTB
      go_enter Try.func36, Try.ntmps36
      go_upto_region 1 with fail
      rw [HW1.out]
      clear HW1
      rw [HG.out]
      refine wp_region_held_drew (S := fun wq => SQ wq) (by kernel_rfl) HSI.out (fun hHeld => ?_)
      obtain ⟨wdx, hwdx⟩ : ∃ wd, W1.drew = wd := ⟨_, rfl⟩
      have hBwd : Below W1.heap.size W1 wdx := by rw [← hwdx]; exact Below.drew (Below.refl _ _)
      rw [hwdx] at hHeld ⊢
      clear hwdx
      refine Tm 0 ?p0x ?v0x hHeld ?r0x
      simp only [Act.put, Pa, Pb, Pc]
      refine Tm 1 ?p1x ?v1x hHeld ?r1x
      simp only [Act.put, Pa, Pb, Pc]
      refine Tm 2 ?p2x ?v2x hHeld ?r2x
      simp only [Act.put, Pa, Pb, Pc]
      refine Tm 3 ?p3x ?v3x hHeld ?r3x
      simp only [Act.put, Pa, Pb, Pc]
      refine Tk 4 ?p4x ?v4x ?y4x hHeld ?r4x
      case y4x => intro wq hq; obtain ⟨⟨b0, b1, b2, b3, b4⟩, ⟨d0, d1, d2, d3, d4, d5, d6⟩⟩ := HS.out wq hq; go_simp; try with_reducible rfl
      simp only [Act.put, Pa, Pb, Pc]
      refine Tm 5 ?p5x ?v5x hHeld ?r5x
      simp only [Act.put, Pa, Pb, Pc]
      refine Tm 6 ?p6x ?v6x hHeld ?r6x
      simp only [Act.put, Pa, Pb, Pc]
      refine Tm 7 ?p7x ?v7x hHeld ?r7x
      simp only [Act.put, Pa, Pb, Pc]
      refine Tk 8 ?p8x ?v8x ?y8x hHeld ?r8x
      case y8x => intro wq hq; obtain ⟨⟨b0, b1, b2, b3, b4⟩, ⟨d0, d1, d2, d3, d4, d5, d6⟩⟩ := HS.out wq hq; go_simp; try with_reducible rfl
      simp only [Act.put, Pa, Pb, Pc]
      refine Tm 9 ?p9x ?v9x hHeld ?r9x
      simp only [Act.put, Pa, Pb, Pc]
      refine Tm 10 ?p10x ?v10x hHeld ?r10x
      simp only [Act.put, Pa, Pb, Pc]
      refine Tm 11 ?p11x ?v11x hHeld ?r11x
      simp only [Act.put, Pa, Pb, Pc]
      refine Tm 12 ?p12x ?v12x hHeld ?r12x
      simp only [Act.put, Pa, Pb, Pc]
      refine Tm 13 ?p13x ?v13x hHeld ?r13x
      simp only [Act.put, Pa, Pb, Pc]
      refine Tk 14 ?p14x ?v14x ?y14x hHeld ?r14x
      case y14x => intro wq hq; obtain ⟨⟨b0, b1, b2, b3, b4⟩, ⟨d0, d1, d2, d3, d4, d5, d6⟩⟩ := HS.out wq hq; go_simp; try with_reducible rfl
      simp only [Act.put, Pa, Pb, Pc]
      refine Rd 15 ?p15x ?s15x
      intro K hK
      go_simp
      refine (isNode_any (bel_row H1.out.row hBwd) f).mono ?_
      rintro e v15 ⟨he, hv⟩
      subst hv
      rw [hi] at he
      subst he
      refine hK.out _ _ hHeld (fun hHeld => ?_)
      clear hK K
      refine Tm 16 ?p16x_15 ?v16x_15 hHeld ?r16x_15
      simp only [Act.put, Pa, Pb, Pc]
      refine Tm 17 ?p17x_15 ?v17x_15 hHeld ?r17x_15
      simp only [Act.put, Pa, Pb, Pc]
      refine wpAnyH_done (by kernel_rfl) ?_ _
      have HBQ := Hid_of (HQ.out _ hBwd)
      go_wp2
      go_ret
      exact HBQ.out
    | true =>
      have HTB : Rm.tkb r ⟨k, f, r.me, s, ⟨bi, bt⟩, v⟩ = true := by unfold Rm.tkb; simp [hi]
      go_enter Try.func36, Try.ntmps36
      go_upto_region 1 with fail
      rw [HW1.out]
      clear HW1
      rw [HG.out]
      refine wp_region_held_drew (S := fun wq => SQ wq) (by kernel_rfl) HSI.out (fun hHeld => ?_)
      obtain ⟨wdy, hwdy⟩ : ∃ wd, W1.drew = wd := ⟨_, rfl⟩
      have hBwd : Below W1.heap.size W1 wdy := by rw [← hwdy]; exact Below.drew (Below.refl _ _)
      rw [hwdy] at hHeld ⊢
      clear hwdy
      refine Tm 0 ?p0y ?v0y hHeld ?r0y
      simp only [Act.put, Pa, Pb, Pc]
      refine Tm 1 ?p1y ?v1y hHeld ?r1y
      simp only [Act.put, Pa, Pb, Pc]
      refine Tm 2 ?p2y ?v2y hHeld ?r2y
      simp only [Act.put, Pa, Pb, Pc]
      refine Tm 3 ?p3y ?v3y hHeld ?r3y
      simp only [Act.put, Pa, Pb, Pc]
      refine Tk 4 ?p4y ?v4y ?y4y hHeld ?r4y
      case y4y => intro wq hq; obtain ⟨⟨b0, b1, b2, b3, b4⟩, ⟨d0, d1, d2, d3, d4, d5, d6⟩⟩ := HS.out wq hq; go_simp; try with_reducible rfl
      simp only [Act.put, Pa, Pb, Pc]
      refine Tm 5 ?p5y ?v5y hHeld ?r5y
      simp only [Act.put, Pa, Pb, Pc]
      refine Tm 6 ?p6y ?v6y hHeld ?r6y
      simp only [Act.put, Pa, Pb, Pc]
      refine Tm 7 ?p7y ?v7y hHeld ?r7y
      simp only [Act.put, Pa, Pb, Pc]
      refine Tk 8 ?p8y ?v8y ?y8y hHeld ?r8y
      case y8y => intro wq hq; obtain ⟨⟨b0, b1, b2, b3, b4⟩, ⟨d0, d1, d2, d3, d4, d5, d6⟩⟩ := HS.out wq hq; go_simp; try with_reducible rfl
      simp only [Act.put, Pa, Pb, Pc]
      refine Tm 9 ?p9y ?v9y hHeld ?r9y
      simp only [Act.put, Pa, Pb, Pc]
      refine Tm 10 ?p10y ?v10y hHeld ?r10y
      simp only [Act.put, Pa, Pb, Pc]
      refine Tm 11 ?p11y ?v11y hHeld ?r11y
      simp only [Act.put, Pa, Pb, Pc]
      refine Tm 12 ?p12y ?v12y hHeld ?r12y
      simp only [Act.put, Pa, Pb, Pc]
      refine Tm 13 ?p13y ?v13y hHeld ?r13y
      simp only [Act.put, Pa, Pb, Pc]
      refine Tk 14 ?p14y ?v14y ?y14y hHeld ?r14y
      case y14y => intro wq hq; obtain ⟨⟨b0, b1, b2, b3, b4⟩, ⟨d0, d1, d2, d3, d4, d5, d6⟩⟩ := HS.out wq hq; go_simp; try with_reducible rfl
      simp only [Act.put, Pa, Pb, Pc]
      refine Rd 15 ?p15y ?s15y
      intro K hK
      go_simp
      refine (isNode_any (bel_row H1.out.row hBwd) f).mono ?_
      rintro e v15 ⟨he, hv⟩
      subst hv
      rw [hi] at he
      subst he
      refine hK.out _ _ hHeld (fun hHeld => ?_)
      clear hK K
      refine Tm 16 ?p16y_15 ?v16y_15 hHeld ?r16y_15
      simp only [Act.put, Pa, Pb, Pc]
      refine Tm 17 ?p17y_15 ?v17y_15 hHeld ?r17y_15
      simp only [Act.put, Pa, Pb, Pc]
      refine wpAnyH_done (by kernel_rfl) ?_ _
      have HBQ := Hid_of hBwd
      have H2 := H1.out.keep hBwd
      have hx2 := (HX.out.keep HB1.out).keep hBwd
      have hap2 : 0 < v.length → ∀ k, blk ad k → k < v15.heap.size ∧ ¬ uni b Fa Fp Fl k := fun h0 k hk => ⟨Nat.lt_of_lt_of_le (HAP.out h0 k hk).1 (bel_up HB1.out hBwd (Nat.le_refl _)).size, (HAP.out h0 k hk).2⟩
      have hz2 := bel_row HZ1.out hBwd
      obtain ⟨⟨x0, x1, x2, x3, x4, x5, x6⟩, -⟩ := row7 hz2
      have cs := said_any ⟨⟨k, f, r.me, s, ⟨bi, bt⟩, v⟩, ad, c⟩ v15 hx2
      have H2 := Hid_of H2
      have HX2 := Hid_of hx2
      have HAP2 := Hid_of hap2
      have HYES : Hid (Rm.tkb r ⟨k, f, r.me, s, ⟨bi, bt⟩, v⟩ = true) := HTB
      clear hx2 hap2 hz2
      go_wp2_with fail
      refine cs.mono ?_
      clear cs x0 x1 x2 x3 x4 x5 x6
      rintro e w3 ⟨rfl, hb3⟩
      have cd := (H2.out.keep hb3).do_any ⟨⟨k, f, r.me, s, ⟨bi, bt⟩, v⟩, ad, c⟩ (HX2.out.keep hb3) (fun h0 q hq => ⟨Nat.lt_of_lt_of_le (HAP2.out h0 q hq).1 hb3.size, (HAP2.out h0 q hq).2⟩) HWF.out HC1.out HC2.out
      have HB3 := Hid_of (bel_up (bel_up HB1.out HBQ.out (Nat.le_refl _)) hb3 (Nat.le_refl _))
      generalize sdV _ = sv at *
      clear hb3
      go_wp2_with fail
      refine cd.mono ?_
      clear cd
      rintro e w4 ho
      have HO : Hid (OutN w0 w (uni b Fa Fp Fl) b (Rm.tkS r ⟨k, f, r.me, s, ⟨bi, bt⟩, v⟩) (Rm.tkN r ⟨k, f, r.me, s, ⟨bi, bt⟩, v⟩) e w4) := by
        unfold Rm.tkS Rm.tkN
        rw [HYES.out]
        exact outN_up HB3.out ho
      obtain ⟨u, G, rfl, -⟩ := ho
      go_wp2
      go_ret
      exact HO.out
  · have dt : (t != r.me) = true := by simpa using ht
    have HTB : Rm.tkb r ⟨k, f, t, s, ⟨bi, bt⟩, v⟩ = false := by unfold Rm.tkb; simp only; rw [decide_eq_false ht, Bool.false_and]
    have HQ : Hid (∀ w', Below W1.heap.size W1 w' → OutN w0 w (uni b Fa Fp Fl) b (Rm.tkS r ⟨k, f, t, s, ⟨bi, bt⟩, v⟩) (Rm.tkN r ⟨k, f, t, s, ⟨bi, bt⟩, v⟩) (.returned (.slice none 0 0)) w') := fun w' hw' => by
      have hb : Rm.tkb r ⟨k, f, t, s, ⟨bi, bt⟩, v⟩ = false := HTB
      unfold Rm.tkS Rm.tkN
      rw [hb]
      exact OutN.self (H1.out.keep hw').rs (Fr.ofBelow (bel_up HB1.out hw' (Nat.le_refl _)))
    clear HTB ht
    go_enter Try.func36, Try.ntmps36
    go_upto_region 1 with fail
    rw [HW1.out]
    clear HW1
    rw [HG.out]
    refine wp_region_held_drew (S := fun wq => SQ wq) (by kernel_rfl) HSI.out (fun hHeld => ?_)
    obtain ⟨wdz, hwdz⟩ : ∃ wd, W1.drew = wd := ⟨_, rfl⟩
    have hBwd : Below W1.heap.size W1 wdz := by rw [← hwdz]; exact Below.drew (Below.refl _ _)
    rw [hwdz] at hHeld ⊢
    clear hwdz
    refine Tm 0 ?p0z ?v0z hHeld ?r0z
    simp only [Act.put, Pa, Pb, Pc]
    refine Tm 1 ?p1z ?v1z hHeld ?r1z
    simp only [Act.put, Pa, Pb, Pc]
    refine Tm 2 ?p2z ?v2z hHeld ?r2z
    simp only [Act.put, Pa, Pb, Pc]
    refine Tm 3 ?p3z ?v3z hHeld ?r3z
    simp only [Act.put, Pa, Pb, Pc]
    refine Tk 4 ?p4z ?v4z ?y4z hHeld ?r4z
    case y4z => intro wq hq; obtain ⟨⟨b0, b1, b2, b3, b4⟩, ⟨d0, d1, d2, d3, d4, d5, d6⟩⟩ := HS.out wq hq; go_simp; try with_reducible rfl
    simp only [Act.put, Pa, Pb, Pc]
    refine Tm 5 ?p5z ?v5z hHeld ?r5z
    simp only [Act.put, Pa, Pb, Pc]
    refine Tm 6 ?p6z ?v6z hHeld ?r6z
    simp only [Act.put, Pa, Pb, Pc]
    refine Tm 7 ?p7z ?v7z hHeld ?r7z
    simp only [Act.put, Pa, Pb, Pc]
    refine Tk 8 ?p8z ?v8z ?y8z hHeld ?r8z
    case y8z => intro wq hq; obtain ⟨⟨b0, b1, b2, b3, b4⟩, ⟨d0, d1, d2, d3, d4, d5, d6⟩⟩ := HS.out wq hq; go_simp; try with_reducible rfl
    simp only [Act.put, Pa, Pb, Pc]
    refine Tm 9 ?p9z ?v9z hHeld ?r9z
    simp only [Act.put, Pa, Pb, Pc]
    refine Tm 10 ?p10z ?v10z hHeld ?r10z
    simp only [Act.put, Pa, Pb, Pc]
    refine Tm 11 ?p11z ?v11z hHeld ?r11z
    simp only [Act.put, Pa, Pb, Pc]
    refine Ts 12 ?p12z hHeld ?r12z
    simp only [Act.put, Pa, Pb, Pc]
    refine Ts 13 ?p13z hHeld ?r13z
    simp only [Act.put, Pa, Pb, Pc]
    refine Ts 14 ?p14z hHeld ?r14z
    simp only [Act.put, Pa, Pb, Pc]
    refine Ts 15 ?p15z hHeld ?r15z
    simp only [Act.put, Pa, Pb, Pc]
    refine Ts 16 ?p16z hHeld ?r16z
    simp only [Act.put, Pa, Pb, Pc]
    refine Tm 17 ?p17z ?v17z hHeld ?r17z
    simp only [Act.put, Pa, Pb, Pc]
    refine wpAnyH_done (by kernel_rfl) ?_ _
    have HBQ := Hid_of (HQ.out _ hBwd)
    go_wp2
    go_ret
    exact HBQ.out
end
end Go.Proofs.Ytgodnpngdbelhaa
namespace Go.Proofs.Ytgodnpngdbelhaa
open Go.RowKit Go.Maps
set_option linter.unusedVariables false
open M (E V)
open Rm (NT R)

namespace Rm
def n0 : NT := ⟨0, 0, 0, 0, e0, []⟩
def chk (r : R) (x : NT) (m : Nat) : Bool := (x.v.all fun y => (Lit.int .i64 y.s).wf) && (decide (r.p.c + x.v.length ≤ 900000) && (decide (r.l.c + x.v.length ≤ 900000) && decide (m + (tkN r x).length ≤ 1000000)))
/-- All is taken, so many notes at most. -/
def stl : Nat → R → List NT → Nat → R
  | 0, r, _, _ => r
  | f + 1, r, l, i => if i < l.length then stl f (tkS r (l.getD i n0)) (l ++ tkN r (l.getD i n0)) (i + 1) else r
def stOk : Nat → R → List NT → Nat → Bool
  | 0, _, _, _ => true
  | f + 1, r, l, i => if i < l.length then chk r (l.getD i n0) l.length && stOk f (tkS r (l.getD i n0)) (l ++ tkN r (l.getD i n0)) (i + 1) else true
end Rm
theorem AtL.getN {w : World} {a : Option Addr} {l : List RN} (h : AtL nl w a l) (j : Nat) (hj : j < l.length) : ∃ b off, a = some ⟨b, off, none⟩ ∧ w.cell? ⟨b, off + j * 7, none⟩ = some (.int .i64 l[j].x.k) ∧ w.cell? ⟨b, off + j * 7 + 1, none⟩ = some (.int .i64 l[j].x.f) ∧ w.cell? ⟨b, off + j * 7 + 2, none⟩ = some (.int .i64 l[j].x.t) ∧ w.cell? ⟨b, off + j * 7 + 3, none⟩ = some (.int .i64 l[j].x.s) ∧ w.cell? ⟨b, off + j * 7 + 4, none⟩ = some (.int .i64 l[j].x.b.i) ∧ w.cell? ⟨b, off + j * 7 + 5, none⟩ = some (.int .i64 l[j].x.b.t) ∧ w.cell? ⟨b, off + j * 7 + 6, none⟩ = some (.slice l[j].ad l[j].x.v.length l[j].c) := by
  obtain ⟨b, off, e, h0⟩ := h j hj
  exact ⟨b, off, e, h0 0 (by decide), h0 1 (by decide), h0 2 (by decide), h0 3 (by decide), h0 4 (by decide), h0 5 (by decide), h0 6 (by decide)⟩
/-- Notes beside a node. -/
structure OB (w : World) (base : Nat) (G : Nat → Prop) (v : Value) (ys : List RN) : Prop where
  ow : OW w base v ys
  own : ∀ k, v.ownBlock = some k → ¬ G k
  all : ∀ y ∈ ys, ∀ k, blk y.ad k → ¬ G k
theorem OB.fr {w w' : World} {base : Nat} {G G' : Nat → Prop} {v : Value} {ys : List RN} (h : OB w base G v ys) (hf : Fr w G w' G') : OB w' base G' v ys := by
  refine ⟨⟨h.ow.own.keepBut fun k hk hk2 => hf.block k hk (h.own k hk2), fun y hy => ?_⟩, fun k hk => not_n hf (h.own k hk) (h.ow.own.lt hk).2, fun y hy k hk => not_n hf (h.all y hy k hk) ((h.ow.all y hy).blk k hk).1⟩
  have h1 := h.ow.all y hy
  exact ⟨h1.xl.keepBut fun k hk hk2 => hf.block k hk (h.all y hy k hk2), fun k hk => ⟨Nat.lt_of_lt_of_le (h1.blk k hk).1 hf.size, (h1.blk k hk).2⟩⟩
theorem NO.ob {w w' : World} {G : Nat → Prop} {u : Value} {l : List NT} (h : NO w G u w' l) : ∃ ys, OB w' w.heap.size G u ys ∧ ys.map RN.x = l := by
  obtain ⟨ys, h1, h2, h3, h4⟩ := h
  exact ⟨ys, ⟨h1, h3, h4⟩, h2⟩
theorem RS.mine {w0 w : World} {F : Nat → Prop} {b : Nat} {r : R} (h : RS w0 w F b r) : ∀ k, F k → w0.heap.size ≤ k ∧ k < w.heap.size := by
  obtain ⟨ba, bp, bl, Fa, Fp, Fl, rfl, hp⟩ := h
  exact hp.mine
theorem RS.bel {w0 w : World} {F : Nat → Prop} {b : Nat} {r : R} (h : RS w0 w F b r) : Below w0.heap.size w0 w := by
  obtain ⟨ba, bp, bl, Fa, Fp, Fl, rfl, hp⟩ := h
  exact hp.bel
theorem RS.keep {w0 w w' : World} {F : Nat → Prop} {b : Nat} {r : R} (h : RS w0 w F b r) (hb : Below w.heap.size w w') : RS w0 w' F b r := by
  obtain ⟨ba, bp, bl, Fa, Fp, Fl, rfl, hp⟩ := h
  exact (hp.keep hb).rs
/-- Something else has changed. -/
theorem RS.step {w0 w w' : World} {F H H' : Nat → Prop} {b : Nat} {r : R} (h : RS w0 w F b r) (hF : Fr w H w' H') (hap : ∀ k, F k → ¬ H k) (hH : ∀ k, H k → w0.heap.size ≤ k) : RS w0 w' F b r := by
  obtain ⟨ba, bp, bl, Fa, Fp, Fl, rfl, hp⟩ := h
  exact RP.rs ⟨(hF.block b hp.lt (hap b (.inl rfl))).trans hp.row, (hp.ac.step hF (fun k hk => hap k (.inr (.inl hk))) hH).1, (hp.ps.step hF (fun k hk => hap k (.inr (.inr (.inl hk)))) hH).1, (ls_step hp.ls hF (fun k hk => hap k (.inr (.inr (.inr hk)))) hH).1, hp.ap, hp.al, hp.pl, hp.nb, hp.lo, hp.nm⟩
/-- What is left as it was. -/
structure Kp (w : World) (F : Nat → Prop) (u : Value) (w' : World) (G : Nat → Prop) (v : Value) : Prop where
  size : w.heap.size ≤ w'.heap.size
  block : ∀ k, k < w.heap.size → ¬ F k → u.ownBlock ≠ some k → w'.heap[k]? = w.heap[k]?
  n : ∀ k, G k → F k ∨ w.heap.size ≤ k
  m : ∀ k, v.ownBlock = some k → u.ownBlock = some k ∨ w.heap.size ≤ k
theorem rw_fr {w w' : World} {v v' : Value} (h : Rw w v w' v') : Fr w (fun k => v.ownBlock = some k) w' (fun k => v'.ownBlock = some k) :=
  ⟨h.g.os, h.g.tape, h.g.output, h.g.size, fun k hk hn => h.g.block k hk (fun e => hn e.symm), h.n⟩
/-- What settle leaves. -/
def StOut (w0 w : World) (F : Nat → Prop) (u : Value) (b : Nat) (r' : R) (e : Ending) (w' : World) : Prop := ∃ G v, e = .returned (.tuple #[]) ∧ RS w0 w' G b r' ∧ Kp w F u w' G v
end Go.Proofs.Ytgodnpngdbelhaa
