import Derived.Test.YtlnedgjikkhplaaGreatGP05
set_option maxRecDepth 100000
set_option maxHeartbeats 8000000
set_option linter.unusedVariables false
set_option linter.unusedSimpArgs false
namespace Go.Proofs.YtlnedgjikkhplaaGreat.Na
open Go.RowKit
open M (E V)
theorem fin_any {w w6 : World} {base b bx r : Nat} {v v6 : Value} {a : M.S} {x : V} {l1 : List V} (h6 : AI w6 base b v6 ⟨x.b, a.base, l1⟩) (hx6 : w6.heap[bx]? = some (.cells #[.int .i64 x.s, .int .i64 x.b.i, .int .i64 x.b.t, .string x.v] 48 (0, 0))) (hne : ¬ fpa b v6 bx) (hr : r < l1.length)
  (hF : Fr w (fpa b v) w6 (fpa b v6) ∧ (∀ l2, l2 = l1.set r x → M.acs a x = ⟨x.b, a.base, l2⟩) ∧ M.acb a x = true) :
  ∃ g cap n, n = l1.length ∧ v6 = .slice (some ⟨g, 0, none⟩) n cap ∧ g ≠ b ∧ g ≠ bx ∧
   Hid (w6.drew.cell? ⟨b, 3, none⟩ = some (.slice (some ⟨g, 0, none⟩) n cap) ∧ w6.drew.cell? ⟨bx, 0, none⟩ = some (.int .i64 x.s) ∧ w6.drew.cell? ⟨bx, 1, none⟩ = some (.int .i64 x.b.i) ∧ w6.drew.cell? ⟨bx, 2, none⟩ = some (.int .i64 x.b.t) ∧ w6.drew.cell? ⟨bx, 3, none⟩ = some (.string x.v)) ∧
   Hid (∀ w7, Below w6.drew.heap.size w6.drew w7 → w7.cell? ⟨b, 3, none⟩ = some (.slice (some ⟨g, 0, none⟩) n cap) ∧ w7.cell? ⟨bx, 0, none⟩ = some (.int .i64 x.s) ∧ w7.cell? ⟨bx, 1, none⟩ = some (.int .i64 x.b.i) ∧ w7.cell? ⟨bx, 2, none⟩ = some (.int .i64 x.b.t) ∧ w7.cell? ⟨bx, 3, none⟩ = some (.string x.v)) ∧
   Hid (∀ w7, Below w6.drew.heap.size w6.drew w7 → (∃ q0 q1 q2 q3, w7.cell? ⟨g, r * 4, none⟩ = some q0 ∧ w7.cell? ⟨g, r * 4 + 1, none⟩ = some q1 ∧ w7.cell? ⟨g, r * 4 + 2, none⟩ = some q2 ∧ w7.cell? ⟨g, r * 4 + 3, none⟩ = some q3) ∧ w7.frozen? ⟨g, r * 4, none⟩ = false ∧ w7.frozen? ⟨g, r * 4 + 1, none⟩ = false ∧ w7.frozen? ⟨g, r * 4 + 2, none⟩ = false ∧ w7.frozen? ⟨g, r * 4 + 3, none⟩ = false) ∧
   Hid (∀ w7 : World, (w7.cell? ⟨b, 3, none⟩ = some (.slice (some ⟨g, 0, none⟩) n cap) ∧ w7.cell? ⟨bx, 0, none⟩ = some (.int .i64 x.s) ∧ w7.cell? ⟨bx, 1, none⟩ = some (.int .i64 x.b.i) ∧ w7.cell? ⟨bx, 2, none⟩ = some (.int .i64 x.b.t) ∧ w7.cell? ⟨bx, 3, none⟩ = some (.string x.v)) →
    ((putO w7 g (r * 4) (.int .i64 x.s) (.int .i64 x.b.i) (.int .i64 x.b.t) (.string x.v)).cell? ⟨b, 3, none⟩ = some (.slice (some ⟨g, 0, none⟩) n cap) ∧ (putO w7 g (r * 4) (.int .i64 x.s) (.int .i64 x.b.i) (.int .i64 x.b.t) (.string x.v)).cell? ⟨bx, 0, none⟩ = some (.int .i64 x.s) ∧ (putO w7 g (r * 4) (.int .i64 x.s) (.int .i64 x.b.i) (.int .i64 x.b.t) (.string x.v)).cell? ⟨bx, 1, none⟩ = some (.int .i64 x.b.i) ∧ (putO w7 g (r * 4) (.int .i64 x.s) (.int .i64 x.b.i) (.int .i64 x.b.t) (.string x.v)).cell? ⟨bx, 2, none⟩ = some (.int .i64 x.b.t) ∧ (putO w7 g (r * 4) (.int .i64 x.s) (.int .i64 x.b.i) (.int .i64 x.b.t) (.string x.v)).cell? ⟨bx, 3, none⟩ = some (.string x.v))) ∧
   Hid (∀ w7, Below w6.drew.heap.size w6.drew w7 → AcOut w base b v a x (.returned (.bool true)) (putO w7 g (r * 4) (.int .i64 x.s) (.int .i64 x.b.i) (.int .i64 x.b.t) (.string x.v))) := by
 obtain ⟨g, cap, hv, hbg, hgl, _, _, _⟩ := h6.own.setV r hr x
 have hgb : g ≠ b := fun e => h6.ap (by rw [hv, e]; rfl)
 have hgx : g ≠ bx := fun e => hne (.inr (by rw [hv, e]; rfl))
 have key : ∀ w7, Below w6.drew.heap.size w6.drew w7 → w7.cell? ⟨b, 3, none⟩ = some (.slice (some ⟨g, 0, none⟩) l1.length cap) ∧ w7.cell? ⟨bx, 0, none⟩ = some (.int .i64 x.s) ∧ w7.cell? ⟨bx, 1, none⟩ = some (.int .i64 x.b.i) ∧ w7.cell? ⟨bx, 2, none⟩ = some (.int .i64 x.b.t) ∧ w7.cell? ⟨bx, 3, none⟩ = some (.string x.v) := by
  intro w7 hb
  have h1 := (row4 (Br (W := w6.drew) h6.row hb)).1.2.2.2
  rw [hv] at h1
  exact ⟨h1, (row4 (Br (W := w6.drew) hx6 hb)).1⟩
 have kept : ∀ (w7 : World) (k o : Nat), k ≠ g → (putO w7 g (r * 4) (.int .i64 x.s) (.int .i64 x.b.i) (.int .i64 x.b.t) (.string x.v)).cell? ⟨k, o, none⟩ = w7.cell? ⟨k, o, none⟩ := fun w7 k o hk => World.cell?_of_block (w := w7) (a := ⟨k, o, none⟩) (putO_oth hk _ _ _ _)
 refine ⟨g, cap, l1.length, rfl, hv, hgb, hgx, Hf (key _ (Below.refl _ _)), Hf key, Hf fun w7 hb => ?_, Hf fun w7 hw => ?_, Hf fun w7 hb => ?_⟩
 ·have hb' : Below w6.heap.size w6 w7 := ⟨hb.os, hb.tape, hb.output, hb.size, hb.block⟩
  obtain ⟨g', cap', hv', _, _, hc, hf, _⟩ := (h6.keep hb').own.setV r hr x
  rw [hv] at hv'
  simp only [Value.slice.injEq, Option.some.injEq, Addr.mk.injEq, and_true, true_and] at hv'
  obtain ⟨rfl, _⟩ := hv'
  exact ⟨hc, hf _, hf _, hf _, hf _⟩
 ·rw [kept _ _ _ hgb.symm, kept _ _ _ hgx.symm, kept _ _ _ hgx.symm, kept _ _ _ hgx.symm, kept _ _ _ hgx.symm]
  exact hw
 ·have hb' : Below w6.heap.size w6 w7 := ⟨hb.os, hb.tape, hb.output, hb.size, hb.block⟩
  have h7 := h6.keep hb'
  obtain ⟨g', cap', hv', _, _, _, _, ho⟩ := h7.own.setV r hr x
  rw [hv] at hv'
  simp only [Value.slice.injEq, Option.some.injEq, Addr.mk.injEq, and_true, true_and] at hv'
  obtain ⟨rfl, _⟩ := hv'
  refine ⟨v6, by rw [hF.2.2], ?_, ?_⟩
  ·rw [hF.2.1 _ rfl]
   exact ⟨(putO_oth hgb.symm _ _ _ _).trans h7.row, ho, h6.ap, h6.lo⟩
  ·refine (hF.1.up hb').trans ?_
   have hg : fpa b v6 g := .inr (by rw [hv]; rfl)
   exact fr_set (fr_set (fr_set (fr_set (Fr.refl _ _) hg _ _) hg _ _) hg _ _) hg _ _
theorem arg_one (w : World) (v : Value) (hv : ∀ k, v.ownBlock = some k → k < w.heap.size) : Arg (w.alloc (.cells #[.int .i64 0, .int .i64 0, .int .i64 0, .string ⟨#[]⟩] 48)) v (.slice (some ⟨w.heap.size, 0, none⟩) 1 1) [⟨0, ⟨0, 0⟩, ⟨#[]⟩⟩] :=
 .inr ⟨w.heap.size, 1, [.int .i64 0, .int .i64 0, .int .i64 0, .string ⟨#[]⟩], rfl, ⟨heap_alloc_last w _, by simp, by decide, rfl, rfl⟩, fun e => by have := hv _ e; omega, by simp⟩
theorem accept_yes {w : World} {base b : Nat} {v : Value} {a : M.S} (h : AI w base b v a) (hbs : base ≤ w.heap.size) (ok : M.Ok a) (x : V) (hyes : M.acb a x = true) : Calls Tryz.prog 62 #[.pointer (some ⟨b, 0, none⟩), vV x] w (AcOut w base b v a x) := by
 obtain ⟨hmx, hs0, hs1, hsz⟩ := M.acb_yes hyes
 obtain ⟨W1, HW1⟩ := Nh (w.alloc (.cells #[.int .i64 x.s, .int .i64 x.b.i, .int .i64 x.b.t, .string x.v] 48))
 have hb1 : Below w.heap.size w W1 := by rw [← HW1.out]; exact bel1 w _
 have hr1 : W1.heap[w.heap.size]? = some (.cells #[.int .i64 x.s, .int .i64 x.b.i, .int .i64 x.b.t, .string x.v] 48 (0, 0)) := by rw [← HW1.out]; exact heap_alloc_last w _
 have h1 := h.keep hb1
 have hm := may_any h1 x.b
 rw [hmx] at hm
 obtain ⟨⟨z0, z1, z2, z3⟩, _⟩ := row4 hr1
 have HR1 := Hf hr1
 have HH := Hf h
 have HB1 := Hf hb1
 have HOK := Hf ok
 have HY := Hf hyes
 have HXS : Hid (x.v.size ≤ 140737488351232) := by have := hsz; exact Hf (by omega)
 have hsd : (decide (a.base ≤ x.s) && decide (x.s < 1024)) = true := by rw [decide_eq_true hs0, decide_eq_true hs1]; rfl
 have d0 : decide ((4096 : Int) < (x.v.size : Int)) = false := decide_eq_false (by omega)
 clear h h1 hb1 hr1 ok hyes hmx hs0 hs1 hsz
 go_enter Tryz.func62, Tryz.ntmps62
 go_upto_region 1 with fail
 rw [HW1.out]; clear HW1
 go_wp2_with fail
 refine hm.mono ?_; rintro e w2 ⟨rfl, hb2⟩
 have hbw2 := Bu HB1.out hb2 Lr
 have HB2 := Hf hbw2
 have hr2 := Br HR1.out hb2
 obtain ⟨⟨y0, y1, y2, y3⟩, _⟩ := row4 hr2
 have h2 := HH.out.keep hbw2
 have hs := hasSlot_any h2 x.s
 rw [hsd] at hs
 obtain ⟨⟨c0, c1, c2, c3⟩, cf⟩ := row4 h2.row
 have f0 := cf 0
 have f1 := cf 1
 have h3 := h2.setP x.b
 have hbx : w.heap.size ≠ b := by have := HH.out.lt; omega
 have hr3 : (put2 w2 b (.int .i64 x.b.i) (.int .i64 x.b.t)).heap[w.heap.size]? = some (.cells #[.int .i64 x.s, .int .i64 x.b.i, .int .i64 x.b.t, .string x.v] 48 (0, 0)) := by
  unfold put2; rw [heap_setCell_other _ ⟨b, 1, none⟩ _ _ hbx, heap_setCell_other _ ⟨b, 0, none⟩ _ _ hbx]
  exact hr2
 have hf3 : Fr w (fpa b v) (put2 w2 b (.int .i64 x.b.i) (.int .i64 x.b.t)) (fpa b v) := fr_set (fr_set (Fr.ofBelow hbw2) (.inl rfl) 0 _) (.inl rfl) 1 _
 obtain ⟨W3, HW3⟩ := Nh (put2 w2 b (.int .i64 x.b.i) (.int .i64 x.b.t))
 have HW3' : Hid ((w2.setCell ⟨b, 0, none⟩ (.int .i64 x.b.i)).setCell ⟨b, 1, none⟩ (.int .i64 x.b.t) = W3) := HW3.out
 rw [HW3.out] at h3 hr3 hf3
 have HF3 := Hf hf3
 have HH3 := Hf h3
 have HR3 := Hf hr3
 clear hb2 hm h2 cf z0 z1 z2 z3 HR1 HB1 HW3 hsd hbw2 hr2 h3 hr3 hf3
 go_wp2_with fail
 refine hs.mono ?_; rintro e w3 ⟨rfl, rfl⟩
 clear hs
 obtain ⟨ad, cap, hv, hxl, hbl⟩ := HH3.out.own.at
 simp only at hv hxl
 have HPL : Hid (∀ W, Below W3.heap.size W3 W → Calls Tryz.prog 105 #[.slice ad a.l.length cap, .int .i64 x.s] W (SrOut W a.l x.s)) := fun W hW => place_any ad cap a.l x.s W (by have := HOK.out.len; omega) (hxl.at'.keep hW) HOK.out.up
 have HS : Hid (∀ w', Below W3.heap.size W3 w' → (w'.cell? ⟨w.heap.size, 0, none⟩ = some (.int .i64 x.s) ∧ w'.cell? ⟨w.heap.size, 1, none⟩ = some (.int .i64 x.b.i) ∧ w'.cell? ⟨w.heap.size, 2, none⟩ = some (.int .i64 x.b.t) ∧ w'.cell? ⟨w.heap.size, 3, none⟩ = some (.string x.v)) ∧ (w'.cell? ⟨b, 0, none⟩ = some (.int .i64 x.b.i) ∧ w'.cell? ⟨b, 1, none⟩ = some (.int .i64 x.b.t) ∧ w'.cell? ⟨b, 2, none⟩ = some (.int .i64 a.base) ∧ w'.cell? ⟨b, 3, none⟩ = some (.slice ad a.l.length cap))) := by
  intro w' hb
  have h4 := (row4 (Br HH3.out.row hb)).1
  rw [hv] at h4
  exact ⟨(row4 (Br HR3.out hb)).1, h4⟩
 have HV := Hf hv
 clear hxl hbl hv
 go_wp2_with fail
 rw [HW3'.out]; clear HW3'
 refine wp_region_held_drew (S := fun wq => Below (W3).heap.size (W3) wq) (by kernel_rfl) (Below.drew (Below.refl _ _)) fun Hl => ?_
 refine Tm 0 ?pA ?vA Hl ?rA
 refine Tm 1 ?pB ?vB Hl ?rB
 refine Tm 2 ?pC ?vC Hl ?rC
 refine Tk 3 ?pD ?vD ?yD Hl ?rD
 case yD => intro q h; obtain ⟨⟨z0, z1, z2, z3⟩, ⟨y0, y1, y2, y3⟩⟩ := HS.out q h; go_simp; try with_reducible rfl
 refine Tm 4 ?pE ?vE Hl ?rE
 refine Tk 5 ?pF ?vF ?yF Hl ?rF
 case yF => intro q h; obtain ⟨⟨z0, z1, z2, z3⟩, ⟨y0, y1, y2, y3⟩⟩ := HS.out q h; go_simp; try with_reducible rfl
 simp only [Act.put, Pa, Pb, Pc]
 refine Rd 6 ?pG ?sG
 intro K hK; go_simp
 refine (HPL.out _ Hl).mono ?_; rintro e w4 ⟨r, bb, rfl, hsr, hb4⟩
 have B6 : Below W3.heap.size W3 w4 := Hl.trans (hb4.mono Hl.size)
 clear hb4
 refine hK.out _ _ B6 fun Hl => ?_; clear hK K
 refine Tm 7 ?pH ?vH Hl ?rH
 refine Tm 8 ?pI ?vI Hl ?rI
 refine Tm 9 ?pJ ?vJ Hl ?rJ
 refine Tm 10 ?pK ?vK Hl ?rK
 refine Tm 11 ?pL ?vL Hl ?rL
 simp only [Act.put, Pa, Pb, Pc]
 refine wpAnyH_done (by kernel_rfl) ?_ _
 have HX4 := Hf (Br HR3.out Hl)
 have HH4 := Hf (HH3.out.keep Hl)
 have HF4 := Hf (HF3.out.up Hl)
 have hlen := HOK.out.len
 have hsl := hsr.le
 have HSR := Hf hsr
 have HNX : Hid (∀ k, v.ownBlock = some k → k ≠ w.heap.size) := fun k hk e => by have := (HH.out.own.lt hk).2; omega
 have hbw : b ≠ w.heap.size := by have := HH.out.lt; omega
 clear hsr HPL HS HR3 HH3 HF3 HB2 y0 y1 y2 y3 c0 c1 c2 c3 f0 f1 Hl
 cases bb with
 | true =>
  have h6 := HH4.out
  have hx6 := HX4.out
  have hne6 : ¬ fpa b v w.heap.size := by
   rintro (e | e)
   ·exact hbw e.symm
   ·exact HNX.out _ e rfl
  obtain ⟨hlt6, -⟩ := HSR.out.yes rfl
  have hF6 : Fr w (fpa b v) w4 (fpa b v) ∧ (∀ l2, l2 = a.l.set r x → M.acs a x = ⟨x.b, a.base, l2⟩) ∧ M.acb a x = true := ⟨HF4.out, fun l2 e => by rw [M.acs_yes HY.out, e, HSR.out.put_yes HOK.out.up], HY.out⟩
  clear HH4 HX4 HF4
  go_wp2_with fail
  obtain ⟨g, cap6, N6, hN6, hv6, hgb, hgx, HKI, HKS, HKC, HKT, HQ⟩ := fin_any h6 hx6 hne6 hlt6 hF6
  subst hv6
  obtain rfl := hN6
  have hi6 := hlt6
  have hi7 : (r : Int) < (a.l.length : Int) := by omega
  clear h6 hx6 hne6 hF6
  refine wp_region_held_drew (S := fun wq => wq.cell? ⟨b, 3, none⟩ = some (.slice (some ⟨g, 0, none⟩) a.l.length cap6) ∧ wq.cell? ⟨w.heap.size, 0, none⟩ = some (.int .i64 x.s) ∧ wq.cell? ⟨w.heap.size, 1, none⟩ = some (.int .i64 x.b.i) ∧ wq.cell? ⟨w.heap.size, 2, none⟩ = some (.int .i64 x.b.t) ∧ wq.cell? ⟨w.heap.size, 3, none⟩ = some (.string x.v)) (by kernel_rfl) HKI.out fun Hl => ?_
  refine Tm 0 ?pM ?vM Hl ?rM
  refine Tm 1 ?pN ?vN Hl ?rN
  refine Tm 2 ?pO ?vO Hl ?rO
  refine Tk 3 ?pP ?vP ?yP Hl ?rP
  case yP => intro wq hq; obtain ⟨y3, z0, z1, z2, z3⟩ := hq; go_simp; try with_reducible rfl
  refine Tm 4 ?pQ ?vQ Hl ?rQ
  refine Tk 5 ?pR ?vR ?yR Hl ?rR
  case yR => intro wq hq; obtain ⟨y3, z0, z1, z2, z3⟩ := hq; go_simp; try with_reducible rfl
  simp only [Act.put, Pa, Pb, Pc]
  refine Rd 6 ?pS ?sS
  intro K hK; go_simp
  refine (own_any x _ HXS.out).mono ?_; rintro e w7 ⟨rfl, hb7⟩
  have S7 := HKS.out _ hb7
  have HG7 := Hf (HKC.out _ hb7)
  have HQ7 := Hf (HQ.out _ hb7)
  clear hb7
  refine hK.out _ _ S7 fun Hl => ?_; clear hK K
  refine Tm 7 ?pT ?vT Hl ?rT
  simp only [Act.put, Pa, Pb, Pc]
  refine Rd 8 ?pU ?sU
  intro K hK; go_simp
  obtain ⟨⟨q0, q1, q2, q3, gc0, gc1, gc2, gc3⟩, gf0, gf1, gf2, gf3⟩ := HG7.out
  go_simp
  refine hK.out _ _ (HKT.out _ Hl) fun Hl => ?_; clear hK K
  refine wpAnyH_done (by kernel_rfl) ?_ _
  go_wp2
  go_ret
  exact HQ7.out
 | false =>
  have h4 := HH4.out
  obtain ⟨⟨c0, c1, c2, c3⟩, _⟩ := row4 h4.row
  rw [HV.out] at c3
  simp only at c0 c1 c2
  have hbs4 : base ≤ w4.heap.size := Nat.le_trans hbs HF4.out.size
  have hins := insert_any r (Nat.le_trans hbs4 (bel1 w4 (.cells #[.int .i64 0, .int .i64 0, .int .i64 0, .string ⟨#[]⟩] 48)).size) (h4.own.keep (bel1 w4 _)) (arg_one w4 v (fun k hk => (h4.own.lt hk).2)) hsl (by simp only; omega) (by simp)
  rw [HV.out] at hins; clear h4
  go_wp2_with fail
  refine hins.mono ?_; rintro e w5 ⟨v6, rfl, ho5, hr5⟩
  have hb4 := bel1 w4 (.cells #[.int .i64 0, .int .i64 0, .int .i64 0, .string ⟨#[]⟩] 48)
  rw [← HV.out] at hr5
  have hR5 : Rw w4 v w5 v6 := (Rw.ofBelow _ hb4).trans hr5
  have h4 := HH4.out
  have hb5 : w5.heap[b]? = w4.heap[b]? := hR5.g.block b h4.lt (fun e => h4.ap e.symm)
  have hx5 : w5.heap[w.heap.size]? = w4.heap[w.heap.size]? := hR5.g.block _ (Array.getElem?_eq_some_iff.1 HX4.out).1 (fun e => HNX.out _ e.symm rfl)
  have hap6 : v6.ownBlock ≠ some b := fun e => by
   rcases hR5.n b e with h | h
   ·exact h4.ap h
   ·have := h4.lt; omega
  have hrow5 := hb5.trans h4.row
  obtain ⟨⟨e0, e1, e2, e3⟩, ef⟩ := row4 hrow5
  have ef3 := ef 3
  have h6 : AI (w5.setCell ⟨b, 3, none⟩ v6) base b v6 ⟨x.b, a.base, a.l.take r ++ [⟨0, ⟨0, 0⟩, ⟨#[]⟩⟩] ++ a.l.drop r⟩ :=
   ⟨heap_setCell_same w5 b 3 _ _ _ hrow5, ho5.keepBut (fun k hk e => heap_setCell_other w5 ⟨b, 3, none⟩ k _ (fun e' => hap6 (e.trans (congrArg some e')))), hap6, h4.lo⟩
  have hx6 : (w5.setCell ⟨b, 3, none⟩ v6).heap[w.heap.size]? = some (.cells #[.int .i64 x.s, .int .i64 x.b.i, .int .i64 x.b.t, .string x.v] 48 (0, 0)) := (heap_setCell_other w5 ⟨b, 3, none⟩ _ _ hbw.symm).trans (hx5.trans HX4.out)
  have hne6 : ¬ fpa b v6 w.heap.size := by
   rintro (e | e)
   ·exact hbw e.symm
   ·rcases hR5.n _ e with h | h
    ·exact HNX.out _ h rfl
    ·have := (Array.getElem?_eq_some_iff.1 HX4.out).1; omega
  have hlt6 : r < (a.l.take r ++ [(⟨0, ⟨0, 0⟩, ⟨#[]⟩⟩ : V)] ++ a.l.drop r).length := by simp; omega
  have hset6 : (a.l.take r ++ [(⟨0, ⟨0, 0⟩, ⟨#[]⟩⟩ : V)] ++ a.l.drop r).set r x = a.l.take r ++ [x] ++ a.l.drop r := by
   rw [List.append_assoc, List.set_append_right _ _ (by simp; omega), show r - (a.l.take r).length = 0 by simp; omega]
   simp
  have hfr5 : Fr w4 (fpa b v) w5 (fpa b v6) := ⟨hR5.g.os, hR5.g.tape, hR5.g.output, hR5.g.size, fun k hk hF => hR5.g.block k hk (fun e => hF (.inr e.symm)), fun k hk => by
   rcases hk with e | e
   ·exact .inl (.inl e)
   ·rcases hR5.n k e with h | h
    ·exact .inl (.inr h)
    ·exact .inr h⟩
  have hF6 : Fr w (fpa b v) (w5.setCell ⟨b, 3, none⟩ v6) (fpa b v6) ∧ (∀ l2, l2 = (a.l.take r ++ [(⟨0, ⟨0, 0⟩, ⟨#[]⟩⟩ : V)] ++ a.l.drop r).set r x → M.acs a x = ⟨x.b, a.base, l2⟩) ∧ M.acb a x = true :=
   ⟨(HF4.out.trans hfr5).trans (fr_set (Fr.refl _ _) (.inl rfl) 3 v6), fun l2 e => by rw [M.acs_yes HY.out, e, hset6, HSR.out.put_no], HY.out⟩
  clear hins ho5 hr5 hb4 hR5 h4 hb5 hx5 hap6 hrow5 ef hset6 hfr5 HH4 HX4 HF4 c0 c1 c2 c3
  generalize a.l.take r ++ [(⟨0, ⟨0, 0⟩, ⟨#[]⟩⟩ : V)] ++ a.l.drop r = l6 at *
  obtain ⟨W6, HW6⟩ := Nh (w5.setCell ⟨b, 3, none⟩ v6)
  rw [HW6.out] at h6 hx6 hF6
  obtain ⟨g, cap6, N6, hN6, hv6, hgb, hgx, HKI, HKS, HKC, HKT, HQ⟩ := fin_any h6 hx6 hne6 hlt6 hF6
  subst hv6
  obtain rfl := hN6
  have hi6 := hlt6
  have hi7 : (r : Int) < (l6.length : Int) := by omega
  clear h6 hx6 hne6 hF6
  go_wp2_with fail
  rw [HW6.out]; clear HW6 e0 e1 e2 e3 ef3
  refine wp_region_held_drew (S := fun wq => wq.cell? ⟨b, 3, none⟩ = some (.slice (some ⟨g, 0, none⟩) l6.length cap6) ∧ wq.cell? ⟨w.heap.size, 0, none⟩ = some (.int .i64 x.s) ∧ wq.cell? ⟨w.heap.size, 1, none⟩ = some (.int .i64 x.b.i) ∧ wq.cell? ⟨w.heap.size, 2, none⟩ = some (.int .i64 x.b.t) ∧ wq.cell? ⟨w.heap.size, 3, none⟩ = some (.string x.v)) (by kernel_rfl) HKI.out fun Hl => ?_
  refine Tm 0 ?pV ?vV Hl ?rV
  refine Tm 1 ?pW ?vW Hl ?rW
  refine Tm 2 ?pX ?vX Hl ?rX
  refine Tk 3 ?pY ?vY ?yY Hl ?rY
  case yY => intro wq hq; obtain ⟨y3, z0, z1, z2, z3⟩ := hq; go_simp; try with_reducible rfl
  refine Tm 4 ?pZ ?vZ Hl ?rZ
  refine Tk 5 ?pa ?va ?ya Hl ?ra
  case ya => intro wq hq; obtain ⟨y3, z0, z1, z2, z3⟩ := hq; go_simp; try with_reducible rfl
  simp only [Act.put, Pa, Pb, Pc]
  refine Rd 6 ?pb ?sb
  intro K hK; go_simp
  refine (own_any x _ HXS.out).mono ?_; rintro e w7 ⟨rfl, hb7⟩
  have S7 := HKS.out _ hb7
  have HG7 := Hf (HKC.out _ hb7)
  have HQ7 := Hf (HQ.out _ hb7)
  clear hb7
  refine hK.out _ _ S7 fun Hl => ?_; clear hK K
  refine Tm 7 ?pc ?vc Hl ?rc
  simp only [Act.put, Pa, Pb, Pc]
  refine Rd 8 ?pd ?sd
  intro K hK; go_simp
  obtain ⟨⟨q0, q1, q2, q3, gc0, gc1, gc2, gc3⟩, gf0, gf1, gf2, gf3⟩ := HG7.out
  go_simp
  refine hK.out _ _ (HKT.out _ Hl) fun Hl => ?_; clear hK K
  refine wpAnyH_done (by kernel_rfl) ?_ _
  go_wp2
  go_ret
  exact HQ7.out
def TrOut (w : World) (base b : Nat) (v : Value) (a : M.S) (u : Int) (e : Ending) (w' : World) : Prop :=
 ∃ v', e = .returned (.int .i64 (M.trn a u : Nat)) ∧ AI w' base b v' (M.trs a u) ∧ Fr w (fpa b v) w' (fpa b v')
theorem copy_nil (w : World) (ty : TypeId) : (Builtin.copy_ #[37, 37] ty #[.slice none 0 0, .slice none 0 0]).run Tryz.prog w = .ok (goInt 0) w := by
 have hi := hi33
 simp [Builtin.copy_, run_underlying Tryz.underlying37, Builtin.lenOf, Builtin.firstCells, sizeOf, typeInfo, hi]
theorem clear_nil (w : World) (ty : TypeId) : (Builtin.clear_ #[37] ty #[.slice none 0 0]).run Tryz.prog w = .ok (.tuple #[]) w := by
 simp [Builtin.clear_, run_underlying Tryz.underlying37]
theorem AI.setB {w : World} {base b : Nat} {v : Value} {a : M.S} (h : AI w base b v a) (x : Int) : AI (w.setCell ⟨b, 2, none⟩ (.int .i64 x)) base b v ⟨a.p, x, a.l⟩ :=
 ⟨heap_setCell_same w b 2 _ _ _ h.row, h.own.keepBut fun k hk e => heap_setCell_other w ⟨b, 2, none⟩ k _ (fun e' => h.ap (e.trans (congrArg some e'))), h.ap, h.lo⟩
theorem trim_any {w : World} {base b : Nat} {v : Value} {a : M.S} (h : AI w base b v a) (ok : M.Ok a) (u : Int) : Calls Tryz.prog 65 #[.pointer (some ⟨b, 0, none⟩), .int .i64 u] w (TrOut w base b v a u) := by
 obtain ⟨nb, HNB⟩ := Nh (max a.base (min u 1024))
 have HTB : Hid ((M.trs a u).base = nb ∧ (M.trs a u).p = a.p) := ⟨HNB.out, rfl⟩
 have h3 := h.setB nb
 have hf3 : Fr w (fpa b v) (w.setCell ⟨b, 2, none⟩ (.int .i64 nb)) (fpa b v) := fr_set (Fr.refl _ _) (.inl rfl) 2 _
 obtain ⟨⟨c0, c1, c2, c3⟩, cf⟩ := row4 h.row
 have f2 := cf 2
 have HSRS : Hid (∀ r bb, M.Sr a.l nb r bb → a.l.drop r = (M.trs a u).l ∧ r = M.trn a u) := fun r bb hs => M.trs_sr ok u (by rw [HNB.out]; exact hs)
 obtain ⟨W3, HW3⟩ := Nh (w.setCell ⟨b, 2, none⟩ (.int .i64 nb))
 rw [HW3.out] at h3 hf3
 have HF3 := Hf hf3
 have HH3 := Hf h3
 have HLEN := Hf ok.len
 obtain ⟨ad, cap, hv, hxl, hbl⟩ := h3.own.at
 simp only at hv hxl
 have HPL : Hid (∀ W, Below W3.heap.size W3 W → Calls Tryz.prog 105 #[.slice ad a.l.length cap, .int .i64 nb] W (SrOut W a.l nb)) := fun W hW => place_any ad cap a.l nb W (by have := HLEN.out; omega) (hxl.at'.keep hW) ok.up
 have HS : Hid (∀ w', Below W3.heap.size W3 w' → (w'.cell? ⟨b, 0, none⟩ = some (.int .i64 a.p.i) ∧ w'.cell? ⟨b, 1, none⟩ = some (.int .i64 a.p.t) ∧ w'.cell? ⟨b, 2, none⟩ = some (.int .i64 nb) ∧ w'.cell? ⟨b, 3, none⟩ = some (.slice ad a.l.length cap))) := by
  intro w' hb
  have h4 := (row4 (Br HH3.out.row hb)).1
  rw [hv] at h4
  exact h4
 have HV := Hf hv
 clear hxl hbl hv h3 hf3 h cf ok
 go_enter Tryz.func65, Tryz.ntmps65
 go_wp2_with fail
 rw [HNB.out, HW3.out]; clear HW3 HNB
 refine wp_region_held_drew (S := fun wq => Below (W3).heap.size (W3) wq) (by kernel_rfl) (Below.drew (Below.refl _ _)) fun Hl => ?_
 refine Tm 0 ?pA ?vA Hl ?rA
 refine Tm 1 ?pB ?vB Hl ?rB
 refine Tm 2 ?pC ?vC Hl ?rC
 refine Tk 3 ?pD ?vD ?yD Hl ?rD
 case yD => intro q h; obtain ⟨y0, y1, y2, y3⟩ := HS.out q h; go_simp; try with_reducible rfl
 refine Tm 4 ?pE ?vE Hl ?rE
 refine Tm 5 ?pF ?vF Hl ?rF
 refine Tm 6 ?pG ?vG Hl ?rG
 refine Tk 7 ?pH ?vH ?yH Hl ?rH
 case yH => intro q h; obtain ⟨y0, y1, y2, y3⟩ := HS.out q h; go_simp; try with_reducible rfl
 simp only [Act.put, Pa, Pb, Pc]
 refine Rd 8 ?pI ?sI
 intro K hK; go_simp
 refine (HPL.out _ Hl).mono ?_; rintro e w4 ⟨r, bb, rfl, hsr, hb4⟩
 have B6 : Below W3.heap.size W3 w4 := Hl.trans (hb4.mono Hl.size)
 clear hb4
 refine hK.out _ _ B6 fun Hl => ?_; clear hK K
 refine Tm 9 ?pJ ?vJ Hl ?rJ
 refine Tm 10 ?pK ?vK Hl ?rK
 refine Tm 11 ?pL ?vL Hl ?rL
 refine Tm 12 ?pM ?vM Hl ?rM
 refine Tm 13 ?pN ?vN Hl ?rN
 simp only [Act.put, Pa, Pb, Pc]
 refine wpAnyH_done (by kernel_rfl) ?_ _
 have h4 := HH3.out.keep Hl
 have hf4 := HF3.out.up Hl
 have hsl := hsr.le
 have HT := Hf (HSRS.out r bb hsr)
 have hlen := HLEN.out
 clear hsr HPL HS HSRS HH3 HF3 Hl c0 c1 c2 c3 f2 B6
 obtain ⟨⟨d0, d1, d2, d3⟩, df⟩ := row4 h4.row
 rw [HV.out] at d3
 have df3 := df 3
 clear df
 have hnr : r = M.trn a u := HT.out.2
 rcases h4.own.row with ⟨hvn, hln⟩ | ⟨g, cap', cur, hvr, hbg, hr⟩
 ·have hln' : a.l = [] := hln
  have hvn' := HV.out.symm.trans hvn
  simp only [Value.slice.injEq] at hvn'
  obtain ⟨rfl, hl0, rfl⟩ := hvn'
  have hr0 : r = 0 := by omega
  have HQ : Hid (TrOut w base b v a u (.returned (.int .i64 0)) (w4.drew.setCell ⟨b, 3, none⟩ (.slice none 0 0))) := by
   refine ⟨.slice none 0 0, by rw [← hnr, hr0]; rfl, ⟨?_, ?_, by simp [Value.ownBlock], h4.lo⟩, ?_⟩
   ·rw [HTB.out.1, HTB.out.2]; exact heap_setCell_same w4.drew b 3 _ _ _ h4.row
   ·rw [← HT.out.1, hln']; simp; exact OwnL.nil _ _ _
   ·exact (fr_set hf4.drew (.inl rfl) 3 _).trans ⟨rfl, rfl, rfl, Nat.le_refl _, fun _ _ _ => rfl, fun k hk => by
     rcases hk with e | e
     ·exact .inl (.inl e)
     ·simp [Value.ownBlock] at e⟩
  rw [hl0] at d3; subst hr0
  have hcp := fun ty => copy_nil w4.drew ty
  have hcl := fun ty => clear_nil w4.drew ty
  clear h4 hf4 HT hnr HV HTB hln hln' hl0 hsl
  go_wp2_with fail
  go_region_law (refine step_copy_runI rfl _ _ 37 37 rfl _ _ (by simp [Act.eval, Act.put]) (by simp [Act.eval, Act.put]) (hcp _) ?_)
  all_goals
   go_wp2_with (at_builtin; refine wpList_clear_runI _ rfl _ 37 rfl _ rfl (hcl _) ?_)
   go_ret
   exact HQ.out
 ·have hvr' := HV.out.symm.trans hvr
  simp only [Value.slice.injEq, true_and] at hvr'
  obtain ⟨rfl, rfl⟩ := hvr'
  have hle := hr.le
  simp only at hle
  have hmx : cap ≤ 9223372036854775807 := by have := hr.mx; unfold maxLen at this; omega
  have hgb : g ≠ b := fun e => h4.ap (by rw [hvr, e]; rfl)
  have hsz := hr.sz
  have hdl : (CC (a.l.drop r)).length = (a.l.length - r) * 4 := by rw [C_len, List.length_drop]
  obtain ⟨m, hm⟩ := Nq (a.l.length - r)
  rw [hm] at hdl
  have HCP : Hid (∀ sp sc, (0 < m → sp = some ⟨g, r * 4, none⟩) → ∀ ty, (Builtin.copy_ #[37, 37] ty #[.slice (some ⟨g, 0, none⟩) a.l.length cap, .slice sp m sc]).run Tryz.prog w4.drew = .ok (goInt m) (w4.drew.setRow g (splice cur 0 (CC (a.l.drop r))).toArray)) := fun sp sc hsp ty =>
   run_copy4 w4.drew 37 37 ty 48 g 0 _ cap sp m sc cur 48 (CC (a.l.drop r)) m Tryz.underlying37 Tryz.size48 hr.h (by simp only [Nat.min_def]; split <;> omega) hdl (fun h => ⟨_, hsp h, hr.at r⟩) (by rw [hdl, hsz]; omega) (C_one _)
  have hl1 : (splice cur 0 (CC (a.l.drop r))).length = cap * 4 := by rw [length_splice _ _ _ (by rw [hdl, hsz]; omega), hsz]
  have ht1 : (splice cur 0 (CC (a.l.drop r))).take (m * 4) = CC (a.l.drop r) := by
   have h1 := splice_at cur [] (CC (a.l.drop r)) rfl
   simp only [List.length_nil, List.nil_append] at h1
   rw [h1, List.take_append_of_le_length (by omega), List.take_of_length_le (by omega)]
  obtain ⟨c1, hc1⟩ := Nq (splice cur 0 (CC (a.l.drop r)))
  rw [hc1] at HCP hl1 ht1
  obtain ⟨W5, hW5⟩ := Nq (w4.drew.setRow g c1.toArray)
  rw [hW5] at HCP
  have hh5 : W5.heap[g]? = some (.cells c1.toArray 48 (0, 0)) := by rw [← hW5]; exact setRow_heap w4.drew g _ _ _ _ hr.h
  have hG5 : InG w4 W5 g := by rw [← hW5]; exact (InG.refl w4 g).drew.set _
  obtain ⟨W6, hW6⟩ := Nq (W5.setRow g (splice c1 (m * 4) (Builtin.zeroCells (Value.agg #[.int .i64 0, .int .i64 0, .int .i64 0, .string ⟨#[]⟩]).cells (a.l.length - m)).toList).toArray)
  have hzl : (Builtin.zeroCells (Value.agg #[.int .i64 0, .int .i64 0, .int .i64 0, .string ⟨#[]⟩]).cells (a.l.length - m)).toList.length = (a.l.length - m) * 4 := by simp [size_zeroCells, Value.cells]
  have HCL : Hid (∀ A c, (0 < a.l.length - m → A = ⟨g, m * 4, none⟩) → ∀ ty, (Builtin.clear_ #[37] ty #[.slice (some A) (a.l.length - m) c]).run Tryz.prog W5 = .ok (.tuple #[]) W6) := by
   intro A c hA ty; rw [← hW6]
   exact run_clear4 (P := Tryz.prog) W5 37 48 ty _ Tryz.underlying37 zv33 rfl (by simp [Value.cells]; exact ⟨rfl, rfl⟩) g (m * 4) (a.l.length - m) c A c1 48 hh5 hA (by rw [hl1]; omega)
  have hG6 : InG w4 W6 g := by rw [← hW6]; exact hG5.set _
  have hl3 : (a.l.drop r).length = m := by rw [List.length_drop]; exact hm
  have ho6 : OwnL vl 48 W6 base (.slice (some ⟨g, 0, none⟩) m cap) (a.l.drop r) := by
   have key : OwnL vl 48 (W5.setRow g (splice c1 (m * 4) (Builtin.zeroCells (Value.agg #[.int .i64 0, .int .i64 0, .int .i64 0, .string ⟨#[]⟩]).cells (a.l.length - m)).toList).toArray) base (.slice (some ⟨g, 0, none⟩) (a.l.drop r).length cap) (a.l.drop r) :=
    Row.own ⟨setRow_heap W5 g _ _ _ _ hh5, by rw [hl3]; omega, hr.mx, by rw [length_splice _ _ _ (by rw [hzl, hl1]; omega), hl1], by rw [hl3, splice_take _ _ _ _ Lr (by rw [hl1]; omega)]; exact ht1⟩ hbg
   rw [hW6, hl3] at key
   exact key
  have hb5 : W5.heap[b]? = w4.heap[b]? := hG5.g.block b h4.lt (fun e => hgb (by simpa using e.symm))
  have hb6 : W6.heap[b]? = w4.heap[b]? := hG6.g.block b h4.lt (fun e => hgb (by simpa using e.symm))
  have hrow5 := hb5.trans h4.row
  have hrow6 := hb6.trans h4.row
  rw [HV.out] at hrow5 hrow6
  obtain ⟨⟨e0, e1, e2, e3⟩, _⟩ := row4 hrow5
  obtain ⟨⟨g0, g1, g2, g3⟩, gf⟩ := row4 hrow6
  have gf3 := gf 3
  have HQ : Hid (TrOut w base b v a u (.returned (.int .i64 (r : Nat))) (W6.setCell ⟨b, 3, none⟩ (.slice (some ⟨g, 0, none⟩) m cap))) := by
   refine ⟨.slice (some ⟨g, 0, none⟩) m cap, by rw [← hnr], ⟨?_, ?_, ?_, h4.lo⟩, ?_⟩
   ·rw [HTB.out.1, HTB.out.2]; exact heap_setCell_same W6 b 3 _ _ _ hrow6
   ·rw [← HT.out.1]; exact ho6.keepBut fun k hk e => heap_setCell_other W6 ⟨b, 3, none⟩ k _ (fun e' => hgb (by simp [Value.ownBlock] at e; exact e.trans e'))
   ·simp [Value.ownBlock]; exact hgb
   ·refine (hf4.trans (⟨hG6.g.os, hG6.g.tape, hG6.g.output, hG6.g.size, fun k hk hF => hG6.g.block k hk (fun e => hF (.inr (by rw [hvr]; exact e.symm))), fun k hk => ?_⟩ : Fr w4 (fpa b v) W6 (fpa b (.slice (some ⟨g, 0, none⟩) m cap)))).trans (fr_set (Fr.refl _ _) (.inl rfl) 3 _)
    rcases hk with e | e
    ·exact .inl (.inl e)
    ·exact .inl (.inr (by rw [hvr]; exact e))
  have hi1 : r ≤ a.l.length := hsl
  have hi2 : (r : Int) ≤ (a.l.length : Int) := by omega
  have hi3 : m ≤ a.l.length := by omega
  have hi4 : (m : Int) ≤ (a.l.length : Int) := by omega
  have hi5 : m ≤ cap := by omega
  have hi6 : (m : Int) ≤ (cap : Int) := by omega
  clear hr hh5 hl1 hc1 hW5 hdl hsz ht1 hG5 hW6 hzl hG6 ho6 hb5 hb6 hrow5 hrow6 gf h4 hf4 HT hnr HTB hl3 hvr hbg HV HLEN
  generalize a.l.length = n at *
  by_cases hc1 : cap = r
  ·have hcp := HCP.out (some ⟨g, 0, none⟩) (cap - r) (fun h => by omega)
   by_cases hc2 : cap = m
   ·have hcl := HCL.out ⟨g, 0, none⟩ (cap - m) (fun h => by omega)
    have hc3 : cap = 0 := by omega
    obtain rfl : m = 0 := by omega
    obtain rfl : r = 0 := by omega
    obtain rfl : n = 0 := by omega
    subst hc3
    simp only [Nat.sub_self] at hcp hcl
    clear HCP HCL
    go_wp2_with fail
    go_region_law (refine step_copy_runI rfl _ _ 37 37 rfl _ _ (by simp [Act.eval, Act.put]) (by simp [Act.eval, Act.put]) (hcp _) ?_)
    all_goals
     go_wp2_with (at_builtin; refine wpList_clear_runI _ rfl _ 37 rfl _ rfl (hcl _) ?_)
     go_ret
     exact HQ.out
   ·have hcl := HCL.out ⟨g, m * 4, none⟩ (cap - m) (fun h => rfl)
    obtain rfl : m = 0 := by omega
    obtain rfl : n = cap := by omega
    subst hc1
    simp only [Nat.sub_self, Nat.zero_mul, Nat.sub_zero] at hcp hcl
    clear HCP HCL
    go_wp2_with fail
    go_region_law (refine step_copy_runI rfl _ _ 37 37 rfl _ _ (by simp [Act.eval, Act.put]) (by simp [Act.eval, Act.put]) (hcp _) ?_)
    all_goals
     go_wp2_with (at_builtin; refine wpList_clear_runI _ rfl _ 37 rfl _ rfl (hcl _) ?_)
     go_ret
     exact HQ.out
  ·have hcp := HCP.out (some ⟨g, r * 4, none⟩) (cap - r) (fun h => rfl)
   by_cases hc2 : cap = m
   ·have hcl := HCL.out ⟨g, 0, none⟩ (cap - m) (fun h => by omega)
    obtain rfl : r = 0 := by omega
    obtain rfl : n = cap := by omega
    subst hc2
    simp only [Nat.sub_self, Nat.zero_mul, Nat.sub_zero] at hcp hcl
    have hc3 : ¬ (n = 0) := by omega
    clear HCP HCL
    go_wp2_with fail
    go_region_law (refine step_copy_runI rfl _ _ 37 37 rfl _ _ (by simp [Act.eval, Act.put]) (by simp [Act.eval, Act.put]) (hcp _) ?_)
    all_goals
     go_wp2_with (at_builtin; refine wpList_clear_runI _ rfl _ 37 rfl _ rfl (hcl _) ?_)
     go_ret
     exact HQ.out
   ·have hcl := HCL.out ⟨g, m * 4, none⟩ (cap - m) (fun h => rfl)
    have hc3 : ¬ (cap = 0) := by omega
    clear HCP HCL
    go_wp2_with fail
    go_region_law (refine step_copy_runI rfl _ _ 37 37 rfl _ _ (by simp [Act.eval, Act.put]) (by simp [Act.eval, Act.put]) (hcp _) ?_)
    all_goals
     go_wp2_with (at_builtin; refine wpList_clear_runI _ rfl _ 37 rfl _ rfl (hcl _) ?_)
     go_ret
     exact HQ.out
end Go.Proofs.YtlnedgjikkhplaaGreat.Na
