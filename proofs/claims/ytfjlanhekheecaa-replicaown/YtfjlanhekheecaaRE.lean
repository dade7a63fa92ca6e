/-
  A ballot is asked for.
-/
import Derived.Test.YtfjlanhekheecaaRD
namespace Go.Proofs.Ytfjlanhekheecaa
open Go.RowKit Go.Maps
set_option linter.unusedVariables false
open M (E V)
open Rm (NT R)

section
variable {w0 w : World} {b ba bp bl : Nat} {Fa Fp Fl : Nat → Prop} {r : R}
set_option maxRecDepth 100000 in
set_option maxHeartbeats 2000000 in
theorem RP.prepare (h : RP w0 w b ba bp bl Fa Fp Fl r) (f s : Int) (x : E) : Calls Try.prog 53 #[ptr b, .agg #[.int .i64 f, .int .i64 s, .int .i64 x.i, .int .i64 x.t]] w (OutN w0 w (uni b Fa Fp Fl) b (Rm.q1S r x s) (Rm.q1N r f x s)) := by
  obtain ⟨i, t⟩ := x
  obtain ⟨W1, HW1⟩ : ∃ W1, Hid (w.alloc (.cells #[.int .i64 f, .int .i64 s, .int .i64 i, .int .i64 t] 97) = W1) := ⟨_, Hid_of rfl⟩
  have hb1 : Below w.heap.size w W1 := by rw [← HW1.out]; exact bel1 w _
  have hz1 : W1.heap[w.heap.size]? = some (.cells #[.int .i64 f, .int .i64 s, .int .i64 i, .int .i64 t] 97 (0, 0)) := by rw [← HW1.out]; exact heap_alloc_last w _
  obtain ⟨g, hg⟩ : ∃ g, w.heap.size = g := ⟨_, rfl⟩
  rw [hg] at hz1
  have hnu : ¬ uni b Fa Fp Fl g := fun e => by have := (h.mine _ e).2; omega
  have H1 := Hid_of (h.keep hb1)
  have HZ1 := Hid_of hz1
  have HB1 := Hid_of hb1
  have HG := Hid_of hg
  obtain ⟨SQ, HSQ⟩ : ∃ SQ : World → Prop, Hid (SQ = fun wq => wq.heap[b]? = some (rrow r ba bp bl) ∧ wq.heap[g]? = some (.cells #[.int .i64 f, .int .i64 s, .int .i64 i, .int .i64 t] 97 (0, 0))) := ⟨_, Hid_of rfl⟩
  have HS : Hid (∀ wq, SQ wq → (wq.cell? ⟨b, 0, none⟩ = some (.int .i64 r.n) ∧ wq.cell? ⟨b, 1, none⟩ = some (.int .i64 r.me) ∧ wq.cell? ⟨b, 2, none⟩ = some (ptr ba) ∧ wq.cell? ⟨b, 3, none⟩ = some (ptr bp) ∧ wq.cell? ⟨b, 4, none⟩ = some (ptr bl)) ∧ (wq.cell? ⟨g, 0, none⟩ = some (.int .i64 f) ∧ wq.cell? ⟨g, 1, none⟩ = some (.int .i64 s) ∧ wq.cell? ⟨g, 2, none⟩ = some (.int .i64 i) ∧ wq.cell? ⟨g, 3, none⟩ = some (.int .i64 t))) := fun wq hq => by
    rw [HSQ.out] at hq
    exact ⟨(row5 hq.1).1, (row4 hq.2).1⟩
  have SK : Hid (∀ w', w'.heap[b]? = some (rrow r ba bp bl) → w'.heap[g]? = some (.cells #[.int .i64 f, .int .i64 s, .int .i64 i, .int .i64 t] 97 (0, 0)) → SQ w') := fun w' h1 h2 => by rw [HSQ.out]; exact ⟨h1, h2⟩
  clear HSQ
  have HSI : Hid (SQ W1.drew) := SK.out _ H1.out.row hz1
  have HNO : Hid (Rm.q1b r ⟨i, t⟩ s = false → Rm.q1S r ⟨i, t⟩ s = { r with p := Np.M.sts r.p ⟨i, t⟩ } ∧ Rm.q1N r f ⟨i, t⟩ s = []) := fun e => ⟨by unfold Rm.q1S; rw [e]; rfl, by unfold Rm.q1N; rw [e]; rfl⟩
  have HYES : Hid (Rm.q1b r ⟨i, t⟩ s = true → Rm.q1S r ⟨i, t⟩ s = { r with p := Np.M.sts r.p ⟨i, t⟩, a := Na.M.prs r.a ⟨i, t⟩ s } ∧ Rm.q1N r f ⟨i, t⟩ s = [⟨2, r.me, f, 0, ⟨i, t⟩, Na.M.prl r.a ⟨i, t⟩ s⟩]) := fun e => ⟨by unfold Rm.q1S; rw [e]; rfl, by unfold Rm.q1N; rw [e]; rfl⟩
  simp only
  clear h hb1 hz1
  go_enter Try.func53, Try.ntmps53
  go_upto_region 1 with fail
  rw [HW1.out]
  clear HW1
  try rw [hg]
  clear hg
  refine wp_region_held_drew (S := fun wq => SQ wq) (by kernel_rfl) HSI.out (fun hHeld => ?_)
  obtain ⟨wdx, hwdx⟩ : ∃ wd, W1.drew = wd := ⟨_, rfl⟩
  have hBwd : Below W1.heap.size W1 wdx := by rw [← hwdx]; exact Below.drew (Below.refl _ _)
  rw [hwdx] at hHeld ⊢
  clear hwdx
  refine Tm 0 ?p0x ?v0x hHeld ?r0x
  refine Tm 1 ?p1x ?v1x hHeld ?r1x
  refine Tm 2 ?p2x ?v2x hHeld ?r2x
  refine Tk 3 ?p3x ?v3x ?y3x hHeld ?r3x
  case y3x => intro wq hq; obtain ⟨⟨b0, b1, b2, b3, b4⟩, ⟨d0, d1, d2, d3⟩⟩ := HS.out wq hq; go_simp; try with_reducible rfl
  refine Tm 4 ?p4x ?v4x hHeld ?r4x
  refine Tk 5 ?p5x ?v5x ?y5x hHeld ?r5x
  case y5x => intro wq hq; obtain ⟨⟨b0, b1, b2, b3, b4⟩, ⟨d0, d1, d2, d3⟩⟩ := HS.out wq hq; go_simp; try with_reducible rfl
  simp only [Act.put, Pa, Pb, Pc]
  refine Rd 6 ?p6x ?s6x
  intro K hK
  go_simp
  refine ((H1.out.keep hBwd).ps.stepB ⟨i, t⟩).mono ?_
  rintro e v6 ⟨Gp, rfl, hp6, hf6⟩
  obtain ⟨hrp, hfu⟩ := (H1.out.keep hBwd).setP hp6 hf6
  have hz6 := (hfu.block g (Array.getElem?_eq_some_iff.1 (bel_row HZ1.out hBwd)).1 hnu).trans (bel_row HZ1.out hBwd)
  have hnu6 := not_n hfu hnu (Array.getElem?_eq_some_iff.1 (bel_row HZ1.out hBwd)).1
  have S6 := SK.out v6 hrp.row hz6
  have HR6 := Hid_of hrp
  have HZ6 := Hid_of hz6
  have HF6 := Hid_of (((Fr.ofBelow HB1.out).up hBwd).trans hfu)
  clear hp6 hf6 hrp hfu hz6
  refine hK.out _ _ S6 (fun hHeld => ?_)
  clear hK K
  refine wpAnyH_done (by kernel_rfl) ?_ _
  obtain ⟨⟨x0, x1, x2, x3⟩, -⟩ := row4 HZ6.out
  by_cases hs0 : s < 0
  · have d0 : decide (s < 0) = true := decide_eq_true hs0
    have hsl : Rm.slt s = false := by unfold Rm.slt; rw [decide_eq_false (by omega)]; rfl
    clear hs0
    have HQ : Hid (OutN w0 w (uni b Fa Fp Fl) b (Rm.q1S r ⟨i, t⟩ s) (Rm.q1N r f ⟨i, t⟩ s) (.returned (.slice none 0 0)) v6) := by
      obtain ⟨e1, e2⟩ := HNO.out (by unfold Rm.q1b; rw [hsl, Bool.false_and])
      exact ⟨_, _, rfl, by rw [e2]; exact NO.nil _ _ _, by rw [e1]; exact HR6.out.rs, HF6.out⟩
    clear hsl
    go_wp2
    go_ret
    exact HQ.out
  · have d0 : decide (s < 0) = false := decide_eq_false hs0
    by_cases hs1 : 1024 ≤ s
    · have d1 : decide (1024 ≤ s) = true := decide_eq_true hs1
      have hsl : Rm.slt s = false := by unfold Rm.slt; rw [decide_eq_false (show ¬ s < 1024 by omega), Bool.and_false]
      clear hs0 hs1
      have HQ : Hid (OutN w0 w (uni b Fa Fp Fl) b (Rm.q1S r ⟨i, t⟩ s) (Rm.q1N r f ⟨i, t⟩ s) (.returned (.slice none 0 0)) v6) := by
        obtain ⟨e1, e2⟩ := HNO.out (by unfold Rm.q1b; rw [hsl, Bool.false_and])
        exact ⟨_, _, rfl, by rw [e2]; exact NO.nil _ _ _, by rw [e1]; exact HR6.out.rs, HF6.out⟩
      clear hsl
      go_wp2
      go_ret
      exact HQ.out
    · have d1 : decide (1024 ≤ s) = false := decide_eq_false hs1
      have hsl : Rm.slt s = true := by unfold Rm.slt; rw [decide_eq_true (show 0 ≤ s by omega), decide_eq_true (show s < 1024 by omega)]; rfl
      have HSI6 : Hid (SQ v6.drew) := SK.out _ HR6.out.row HZ6.out
      obtain ⟨pb, hpb⟩ : ∃ pb, Na.M.prb r.a ⟨i, t⟩ s = pb := ⟨_, rfl⟩
      clear hs0 hs1
      go_upto_region 4 with fail
      clear x0 x1 x2 x3 d0 d1
      refine wp_region_held_drew (S := fun wq => SQ wq) (by kernel_rfl) HSI6.out (fun hHeld => ?_)
      obtain ⟨wdy, hwdy⟩ : ∃ wd, v6.drew = wd := ⟨_, rfl⟩
      have hBwd : Below v6.heap.size v6 wdy := by rw [← hwdy]; exact Below.drew (Below.refl _ _)
      rw [hwdy] at hHeld ⊢
      clear hwdy
      refine Tm 0 ?p0y ?v0y hHeld ?r0y
      refine Tm 1 ?p1y ?v1y hHeld ?r1y
      refine Tm 2 ?p2y ?v2y hHeld ?r2y
      refine Tk 3 ?p3y ?v3y ?y3y hHeld ?r3y
      case y3y => intro wq hq; obtain ⟨⟨b0, b1, b2, b3, b4⟩, ⟨d0, d1, d2, d3⟩⟩ := HS.out wq hq; go_simp; try with_reducible rfl
      refine Tm 4 ?p4y ?v4y hHeld ?r4y
      refine Tk 5 ?p5y ?v5y ?y5y hHeld ?r5y
      case y5y => intro wq hq; obtain ⟨⟨b0, b1, b2, b3, b4⟩, ⟨d0, d1, d2, d3⟩⟩ := HS.out wq hq; go_simp; try with_reducible rfl
      refine Tm 6 ?p6y ?v6y hHeld ?r6y
      refine Tk 7 ?p7y ?v7y ?y7y hHeld ?r7y
      case y7y => intro wq hq; obtain ⟨⟨b0, b1, b2, b3, b4⟩, ⟨d0, d1, d2, d3⟩⟩ := HS.out wq hq; go_simp; try with_reducible rfl
      simp only [Act.put, Pa, Pb, Pc]
      refine Rd 8 ?p8y ?s8y
      intro K hK
      go_simp
      refine ((HR6.out.keep hBwd).ac.promise ⟨i, t⟩ s).mono ?_
      rintro e v8 ⟨ad8, c8, he, hx8, hbk8, ha8, hf8⟩
      rw [hpb] at he
      subst he
      obtain ⟨hrp, hfu⟩ := (HR6.out.keep hBwd).setA ha8 hf8
      have hz8 := (hfu.block g (Array.getElem?_eq_some_iff.1 (bel_row HZ6.out hBwd)).1 hnu6).trans (bel_row HZ6.out hBwd)
      have S8 := SK.out v8 hrp.row hz8
      have HR8 := Hid_of hrp
      have HZ8 := Hid_of hz8
      have HF8 := Hid_of ((HF6.out.up hBwd).trans hfu)
      have HX8 := Hid_of hx8
      have HK8 : Hid (∀ k, blk ad8 k → v6.heap.size ≤ k ∧ k < v8.heap.size) := fun k hk => ⟨Nat.le_trans hBwd.size (hbk8 k hk).1, (hbk8 k hk).2⟩
      clear ha8 hf8 hrp hfu hz8 hx8 hbk8
      refine hK.out _ _ S8 (fun hHeld => ?_)
      clear hK K
      refine Tm 9 ?p9y_8 ?v9y_8 hHeld ?r9y_8
      refine Tm 10 ?p10y_8 ?v10y_8 hHeld ?r10y_8
      refine Tm 11 ?p11y_8 ?v11y_8 hHeld ?r11y_8
      refine Tm 12 ?p12y_8 ?v12y_8 hHeld ?r12y_8
      refine Tm 13 ?p13y_8 ?v13y_8 hHeld ?r13y_8
      simp only [Act.put, Pa, Pb, Pc]
      refine wpAnyH_done (by kernel_rfl) ?_ _
      cases pb with
      | false =>
        have HQ : Hid (OutN w0 w (uni b Fa Fp Fl) b (Rm.q1S r ⟨i, t⟩ s) (Rm.q1N r f ⟨i, t⟩ s) (.returned (.slice none 0 0)) v8) := by
          obtain ⟨e1, e2⟩ := HNO.out (by unfold Rm.q1b; rw [hpb, Bool.and_false])
          have h8 := HR8.out
          rw [Na.M.prs_no hpb] at h8
          exact ⟨_, _, rfl, by rw [e2]; exact NO.nil _ _ _, by rw [e1]; exact h8.rs, HF8.out⟩
        clear hpb
        go_wp2
        go_ret
        exact HQ.out
      | true =>
        obtain ⟨e1, e2⟩ := HYES.out (by unfold Rm.q1b; rw [hpb, hsl]; rfl)
        have HFIN : Hid (∀ gv wv, Below v8.heap.size v8 wv → v8.heap.size ≤ gv → wv.heap[gv]? = some (.cells #[.int .i64 2, .int .i64 r.me, .int .i64 f, .int .i64 0, .int .i64 i, .int .i64 t, .slice ad8 (Na.M.prl r.a ⟨i, t⟩ s).length c8] 32 (0, 0)) → OutN w0 w (uni b Fa Fp Fl) b (Rm.q1S r ⟨i, t⟩ s) (Rm.q1N r f ⟨i, t⟩ s) (.returned (.slice (some ⟨gv, 0, none⟩) 1 1)) wv) := fun gv wv hb hg hrv => by
          rw [e1, e2]
          refine ⟨_, _, rfl, NO.one (y := ⟨⟨2, r.me, f, 0, ⟨i, t⟩, Na.M.prl r.a ⟨i, t⟩ s⟩, ad8, c8⟩) hrv (Nat.le_trans HF8.out.size hg) (fun e => by have := (HR8.out.mine _ e).2; omega) ⟨HX8.out.keep hb, fun k hk => ?_⟩, (HR8.out.keep hb).rs, HF8.out.up hb⟩
          have h1 := HK8.out k hk
          exact ⟨Nat.lt_of_lt_of_le h1.2 hb.size, Nat.le_trans HF6.out.size h1.1, (fun e => by have := (HR6.out.mine _ e).2; have := h1.1; omega), by have := h1.2; omega⟩
        obtain ⟨L, HL⟩ : ∃ L, Hid ((Na.M.prl r.a ⟨i, t⟩ s).length = L) := ⟨_, Hid_of rfl⟩
        rw [HL.out] at HFIN ⊢
        have HSI8 : Hid (SQ v8.drew) := SK.out _ HR8.out.row HZ8.out
        clear hpb e1 e2
        go_upto_region 7 with fail
        refine wp_region_held_drew (S := fun wq => SQ wq) (by kernel_rfl) HSI8.out (fun hHeld => ?_)
        obtain ⟨wdq, hwdq⟩ : ∃ wd, v8.drew = wd := ⟨_, rfl⟩
        have hBwd : Below v8.heap.size v8 wdq := by rw [← hwdq]; exact Below.drew (Below.refl _ _)
        rw [hwdq] at hHeld ⊢
        clear hwdq
        refine Tm 0 ?p0q ?v0q hHeld ?r0q
        refine Tm 1 ?p1q ?v1q hHeld ?r1q
        refine Tm 2 ?p2q ?v2q hHeld ?r2q
        refine Tk 3 ?p3q ?v3q ?y3q hHeld ?r3q
        case y3q => intro wq hq; obtain ⟨⟨b0, b1, b2, b3, b4⟩, ⟨d0, d1, d2, d3⟩⟩ := HS.out wq hq; go_simp; try with_reducible rfl
        refine Tm 4 ?p4q ?v4q hHeld ?r4q
        refine Tk 5 ?p5q ?v5q ?y5q hHeld ?r5q
        case y5q => intro wq hq; obtain ⟨⟨b0, b1, b2, b3, b4⟩, ⟨d0, d1, d2, d3⟩⟩ := HS.out wq hq; go_simp; try with_reducible rfl
        refine Tm 6 ?p6q ?v6q hHeld ?r6q
        refine Tk 7 ?p7q ?v7q ?y7q hHeld ?r7q
        case y7q => intro wq hq; obtain ⟨⟨b0, b1, b2, b3, b4⟩, ⟨d0, d1, d2, d3⟩⟩ := HS.out wq hq; go_simp; try with_reducible rfl
        refine Tm 8 ?p8q ?v8q hHeld ?r8q
        refine Tm 9 ?p9q ?v9q hHeld ?r9q
        simp only [Act.put, Pa, Pb, Pc]
        refine Rd 10 ?p10q ?s10q
        intro K hK
        go_simp
        obtain ⟨wv, hwv⟩ : ∃ wv, wdq.alloc (.cells #[.int .i64 2, .int .i64 r.me, .int .i64 f, .int .i64 0, .int .i64 i, .int .i64 t, .slice ad8 L c8] 32) = wv := ⟨_, rfl⟩
        have hbv : Below wdq.heap.size wdq wv := by rw [← hwv]; exact bel1 _ _
        have hrv : wv.heap[wdq.heap.size]? = some (.cells #[.int .i64 2, .int .i64 r.me, .int .i64 f, .int .i64 0, .int .i64 i, .int .i64 t, .slice ad8 L c8] 32 (0, 0)) := by rw [← hwv]; exact heap_alloc_last _ _
        obtain ⟨gv, hgv⟩ : ∃ gv, wdq.heap.size = gv := ⟨_, rfl⟩
        rw [hwv]
        rw [hgv] at hrv ⊢
        have hgv' : v8.heap.size ≤ gv := by rw [← hgv]; exact hBwd.size
        have hbv2 : Below v8.heap.size v8 wv := bel_up hBwd hbv (Nat.le_refl _)
        have S10 := SK.out wv (bel_row HR8.out.row hbv2) (bel_row HZ8.out hbv2)
        have HQ := Hid_of (HFIN.out gv wv hbv2 hgv' hrv)
        clear hwv hgv hbv hrv hbv2 hgv'
        refine hK.out _ _ S10 (fun hHeld => ?_)
        clear hK K
        refine Tm 11 ?p11q_10 ?v11q_10 hHeld ?r11q_10
        simp only [Act.put, Pa, Pb, Pc]
        refine wpAnyH_done (by kernel_rfl) ?_ _
        go_wp2
        go_ret
        exact HQ.out
end
end Go.Proofs.Ytfjlanhekheecaa
