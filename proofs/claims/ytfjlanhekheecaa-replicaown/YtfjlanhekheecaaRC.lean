/-
  What is told goes; a value is proposed; a crash.
-/
import Derived.Test.YtfjlanhekheecaaRB
import Derived.Test.YtfjlanhekheecaaRA
namespace Go.Proofs.Ytfjlanhekheecaa
open Go.RowKit Go.Maps
set_option linter.unusedVariables false
open M (E V)
open Rm (NT R)

section
variable {w0 w : World} {b ba bp bl : Nat} {Fa Fp Fl : Nat → Prop} {r : R}
set_option maxRecDepth 100000 in
set_option maxHeartbeats 1000000 in
theorem RP.trim (h : RP w0 w b ba bp bl Fa Fp Fl r) (u : Int) : Calls Try.prog 18 #[ptr b, .int .i64 u] w fun e w' => ∃ G, e = .returned (.int .i64 (Rm.trc r u)) ∧ RS w0 w' G b (Rm.trS r u) ∧ Fr w (uni b Fa Fp Fl) w' G := by
  have ct := h.ls.trim u
  obtain ⟨⟨c0, c1, c2, c3, c4⟩, _⟩ := row5 h.row
  have H0 := Hid_of h
  have HT : Hid (Nl.M.tb r.l u - r.l.base = Rm.trc r u) := rfl
  clear h
  go_enter Try.func18, Try.ntmps18
  go_wp2_with fail
  refine ct.mono ?_
  clear ct
  rintro e w1 ⟨Gl, rfl, hl, hf⟩
  obtain ⟨hrp1, hf1⟩ := H0.out.setL hl hf
  rw [HT.out]
  have HRP := Hid_of hrp1
  have HF1 := Hid_of hf1
  obtain ⟨⟨x0, x1, x2, x3, x4⟩, -⟩ := row5 hrp1.row
  have HFIN : Hid (∀ w' Ga, RP w0 w' b ba bp bl Ga Fp Gl (Rm.trS r u) → Fr w1 (uni b Fa Fp Gl) w' (uni b Ga Fp Gl) → ∃ G, RS w0 w' G b (Rm.trS r u) ∧ Fr w (uni b Fa Fp Fl) w' G) := fun w' Ga h1 h2 => ⟨_, h1.rs, HF1.out.trans h2⟩
  obtain ⟨SQ, HSQ⟩ : ∃ SQ : World → Prop, Hid (SQ = fun wq => ∃ x, wq.heap[b]? = some (.cells #[.int .i64 r.n, .int .i64 r.me, ptr ba, x, ptr bl] 62 (0, 0))) := ⟨_, Hid_of rfl⟩
  have HS : Hid (∀ wq, SQ wq → wq.cell? ⟨b, 0, none⟩ = some (.int .i64 r.n) ∧ wq.cell? ⟨b, 1, none⟩ = some (.int .i64 r.me) ∧ wq.cell? ⟨b, 2, none⟩ = some (ptr ba) ∧ wq.cell? ⟨b, 4, none⟩ = some (ptr bl)) := fun wq hq => by
    rw [HSQ.out] at hq
    obtain ⟨x, hq⟩ := hq
    obtain ⟨⟨e0, e1, e2, -, e3⟩, -⟩ := row5 hq
    exact ⟨e0, e1, e2, e3⟩
  have SK : Hid (∀ w', (∃ x, w'.heap[b]? = some (.cells #[.int .i64 r.n, .int .i64 r.me, ptr ba, x, ptr bl] 62 (0, 0))) → SQ w') := fun w' hw' => by rw [HSQ.out]; exact hw'
  have HSI : Hid (SQ w1.drew) := SK.out _ ⟨_, HRP.out.row⟩
  clear hl hf hrp1 hf1 HSQ c0 c1 c2 c3 c4
  go_upto_region 4 with fail
  clear x0 x1 x2 x3 x4
  refine wp_region_held_drew (S := fun wq => SQ wq) (by kernel_rfl) HSI.out (fun hHeld => ?_)
  obtain ⟨wdx, hwdx⟩ : ∃ wd, w1.drew = wd := ⟨_, rfl⟩
  have hBwd : Below w1.heap.size w1 wdx := by rw [← hwdx]; exact Below.drew (Below.refl _ _)
  rw [hwdx] at hHeld ⊢
  clear hwdx
  have HBc := hBwd
  refine Tm 0 ?p0x ?v0x hHeld ?r0x
  refine Tm 1 ?p1x ?v1x hHeld ?r1x
  refine Tm 2 ?p2x ?v2x hHeld ?r2x
  refine Tk 3 ?p3x ?v3x ?y3x hHeld ?r3x
  case y3x => intro wq hq; obtain ⟨b0, b1, b2, b3⟩ := HS.out wq hq; go_simp; try with_reducible rfl
  refine Tm 4 ?p4x ?v4x hHeld ?r4x
  refine Tm 5 ?p5x ?v5x hHeld ?r5x
  refine Tm 6 ?p6x ?v6x hHeld ?r6x
  refine Tk 7 ?p7x ?v7x ?y7x hHeld ?r7x
  case y7x => intro wq hq; obtain ⟨b0, b1, b2, b3⟩ := HS.out wq hq; go_simp; try with_reducible rfl
  simp only [Act.put, Pa, Pb, Pc]
  refine Rd 8 ?p8x ?s8x
  intro K hK
  go_simp
  refine ((HRP.out.keep HBc).ls.base).mono ?_
  rintro e v8 ⟨rfl, hv8⟩
  subst hv8
  refine hK.out _ _ hHeld (fun hHeld => ?_)
  clear hK K
  refine Rd 9 ?p9x_8 ?s9x_8
  intro K hK
  go_simp
  refine ((HRP.out.keep HBc).ac.trim _).mono ?_
  rintro e v9 ⟨Ga, rfl, ha, hf9⟩
  obtain ⟨hrp2, hfu⟩ := (HRP.out.keep HBc).setA ha hf9
  have S9 := SK.out v9 ⟨_, hrp2.row⟩
  have HQ := Hid_of (HFIN.out _ _ hrp2 ((Fr.ofBelow HBc).trans hfu))
  clear ha hf9 hrp2 hfu
  refine hK.out _ _ S9 (fun hHeld => ?_)
  clear hK K
  refine wpAnyH_done (by kernel_rfl) ?_ _
  go_wp2
  go_ret
  obtain ⟨G, h1, h2⟩ := HQ.out
  exact ⟨G, rfl, h1, h2⟩

/-- What a crash leaves. -/
theorem RP.crash (h : RP w0 w b ba bp bl Fa Fp Fl r) : Calls Try.prog 15 #[ptr b] w fun e w' => ∃ G, e = .returned (.tuple #[]) ∧ RS w0 w' G b (Rm.crS r) ∧ Fr w (uni b Fa Fp Fl) w' G := by
  have hnl : Nl.M.nde r.n = true := by
    have := h.n17
    unfold Nl.M.nde
    simp only [Bool.and_eq_true, decide_eq_true_eq]
    exact this
  have HNL := Hid_of hnl
  have HAB : Hid (0 ≤ r.a.base ∧ r.a.base ≤ 1024) := Hid_of ⟨h.ac.ok.b0, h.ac.ok.b1⟩
  have HRP := Hid_of h
  obtain ⟨⟨x0, x1, x2, x3, x4⟩, -⟩ := row5 h.row
  have HFIN : Hid (∀ w' q q2 Gp Gl (_ : Unit), RP w0 w' b ba q q2 Fa Gp Gl (Rm.crS r) → Fr w (uni b Fa Fp Fl) w' (uni b Fa Gp Gl) → ∃ G, RS w0 w' G b (Rm.crS r) ∧ Fr w (uni b Fa Fp Fl) w' G) := fun w' q q2 Gp Gl _ h1 h2 => ⟨_, h1.rs, h2⟩
  obtain ⟨SQ, HSQ⟩ : ∃ SQ : World → Prop, Hid (SQ = fun wq => ∃ x y, wq.heap[b]? = some (.cells #[.int .i64 r.n, .int .i64 r.me, ptr ba, x, y] 62 (0, 0))) := ⟨_, Hid_of rfl⟩
  have HS : Hid (∀ wq, SQ wq → wq.cell? ⟨b, 0, none⟩ = some (.int .i64 r.n) ∧ wq.cell? ⟨b, 1, none⟩ = some (.int .i64 r.me) ∧ wq.cell? ⟨b, 2, none⟩ = some (ptr ba)) := fun wq hq => by
    rw [HSQ.out] at hq
    obtain ⟨x, y, hq⟩ := hq
    obtain ⟨⟨e0, e1, e2, -, -⟩, -⟩ := row5 hq
    exact ⟨e0, e1, e2⟩
  have SK : Hid (∀ w', (∃ x y, w'.heap[b]? = some (.cells #[.int .i64 r.n, .int .i64 r.me, ptr ba, x, y] 62 (0, 0))) → SQ w') := fun w' hw' => by rw [HSQ.out]; exact hw'
  have HSI : Hid (SQ w.drew) := SK.out _ ⟨_, _, h.row⟩
  clear h hnl HSQ
  go_enter Try.func15, Try.ntmps15
  go_upto_region 1 with fail
  clear x0 x1 x2 x3 x4
  refine wp_region_held_drew (S := fun wq => SQ wq) (by kernel_rfl) HSI.out (fun hHeld => ?_)
  obtain ⟨wdx, hwdx⟩ : ∃ wd, w.drew = wd := ⟨_, rfl⟩
  have hBwd : Below w.heap.size w wdx := by rw [← hwdx]; exact Below.drew (Below.refl _ _)
  rw [hwdx] at hHeld ⊢
  clear hwdx
  have HBc := hBwd
  refine Tm 0 ?p0x ?v0x hHeld ?r0x
  refine Tm 1 ?p1x ?v1x hHeld ?r1x
  refine Tm 2 ?p2x ?v2x hHeld ?r2x
  refine Tm 3 ?p3x ?v3x hHeld ?r3x
  refine Tk 4 ?p4x ?v4x ?y4x hHeld ?r4x
  case y4x => intro wq hq; obtain ⟨b0, b1, b2⟩ := HS.out wq hq; go_simp; try with_reducible rfl
  refine Tm 5 ?p5x ?v5x hHeld ?r5x
  refine Tm 6 ?p6x ?v6x hHeld ?r6x
  refine Tm 7 ?p7x ?v7x hHeld ?r7x
  refine Tk 8 ?p8x ?v8x ?y8x hHeld ?r8x
  case y8x => intro wq hq; obtain ⟨b0, b1, b2⟩ := HS.out wq hq; go_simp; try with_reducible rfl
  simp only [Act.put, Pa, Pb, Pc]
  refine Rd 9 ?p9x ?s9x
  intro K hK
  go_simp
  refine (Np.newS_any w0 _ (bel_up HRP.out.bel HBc (Nat.le_refl _)) r.n r.me).mono ?_
  rintro e v9 (⟨hf, -, -⟩ | ⟨-, q, Gp, rfl, hp, hb9, hn9⟩)
  · rw [HRP.out.nm] at hf; cases hf
  obtain ⟨hrp2, hf2⟩ := HRP.out.newP hp (bel_up HBc hb9 (Nat.le_refl _)) (fun k hk => Nat.le_trans HBc.size (hn9 k hk))
  have hrv9 := bel_row HRP.out.row (bel_up HBc hb9 (Nat.le_refl _))
  have S9 := SK.out _ ⟨_, _, hrv9⟩
  obtain ⟨⟨y0, y1, y2, y3, y4⟩, yf⟩ := row5 hrv9
  have yf3 := yf 3
  have HR2 := Hid_of hrp2
  have HF2 := Hid_of hf2
  clear hp hb9 hn9 hrp2 hf2 yf hrv9
  refine hK.out _ _ S9 (fun hHeld => ?_)
  clear hK K
  refine Tm 10 ?p10x_9 ?v10x_9 hHeld ?r10x_9
  refine Tm 11 ?p11x_9 ?v11x_9 hHeld ?r11x_9
  simp only [Act.put, Pa, Pb, Pc]
  refine Rd 12 ?p12x_9 ?s12x_9
  intro K hK
  go_simp
  have S12 := SK.out (v9.setCell ⟨b, 3, none⟩ (ptr q)) ⟨_, _, HR2.out.row⟩
  clear y0 y1 y2 y3 y4
  refine hK.out _ _ S12 (fun hHeld => ?_)
  clear hK K
  refine wpAnyH_done (by kernel_rfl) ?_ _
  go_upto_region 2 with fail
  obtain ⟨W2, HW2⟩ : ∃ W2, v9.setCell ⟨b, 3, none⟩ (ptr q) = W2 := ⟨_, rfl⟩
  rw [HW2]
  rw [HW2] at HR2 HF2 S12
  clear HW2 yf3
  have HSI2 : Hid (SQ W2.drew) := SK.out _ ⟨_, _, HR2.out.row⟩
  refine wp_region_held_drew (S := fun wq => SQ wq) (by kernel_rfl) HSI2.out (fun hHeld => ?_)
  obtain ⟨wdy, hwdy⟩ : ∃ wd, W2.drew = wd := ⟨_, rfl⟩
  have hBwd : Below W2.heap.size W2 wdy := by rw [← hwdy]; exact Below.drew (Below.refl _ _)
  rw [hwdy] at hHeld ⊢
  clear hwdy
  have HBd := hBwd
  refine Tm 0 ?p0y ?v0y hHeld ?r0y
  refine Tm 1 ?p1y ?v1y hHeld ?r1y
  refine Tm 2 ?p2y ?v2y hHeld ?r2y
  refine Tm 3 ?p3y ?v3y hHeld ?r3y
  refine Tk 4 ?p4y ?v4y ?y4y hHeld ?r4y
  case y4y => intro wq hq; obtain ⟨b0, b1, b2⟩ := HS.out wq hq; go_simp; try with_reducible rfl
  refine Tm 5 ?p5y ?v5y hHeld ?r5y
  refine Tm 6 ?p6y ?v6y hHeld ?r6y
  refine Tm 7 ?p7y ?v7y hHeld ?r7y
  refine Tk 8 ?p8y ?v8y ?y8y hHeld ?r8y
  case y8y => intro wq hq; obtain ⟨b0, b1, b2⟩ := HS.out wq hq; go_simp; try with_reducible rfl
  simp only [Act.put, Pa, Pb, Pc]
  refine Rd 9 ?p9y ?s9y
  intro K hK
  go_simp
  refine ((HR2.out.keep HBd).ac.base).mono ?_
  rintro e v9b ⟨rfl, hv9⟩
  subst hv9
  refine hK.out _ _ hHeld (fun hHeld => ?_)
  clear hK K
  refine Rd 10 ?p10y_9 ?s10y_9
  intro K hK
  go_simp
  refine (learnerFrom_any w0 _ (bel_up HR2.out.bel HBd (Nat.le_refl _)) r.n r.a.base HNL.out HAB.out.1 HAB.out.2).mono ?_
  rintro e v10 ⟨q2, Gl, rfl, hl, hb10, hn10⟩
  obtain ⟨hrp3, hf3⟩ := HR2.out.newL hl (bel_up HBd hb10 (Nat.le_refl _)) (fun k hk => Nat.le_trans HBd.size (hn10 k hk))
  have hrv10 := bel_row HR2.out.row (bel_up HBd hb10 (Nat.le_refl _))
  have S10 := SK.out _ ⟨_, _, hrv10⟩
  obtain ⟨⟨z0, z1, z2, z3, z4⟩, zf⟩ := row5 hrv10
  have zf4 := zf 4
  have S13 := SK.out _ ⟨_, _, hrp3.row⟩
  have HQ := Hid_of (HFIN.out _ _ _ _ _ () hrp3 (HF2.out.trans hf3))
  clear hl hb10 hn10 hrp3 hf3 zf hrv10
  refine hK.out _ _ S10 (fun hHeld => ?_)
  clear hK K
  refine Tm 11 ?p11y_9_10 ?v11y_9_10 hHeld ?r11y_9_10
  refine Tm 12 ?p12y_9_10 ?v12y_9_10 hHeld ?r12y_9_10
  simp only [Act.put, Pa, Pb, Pc]
  refine Rd 13 ?p13y_9_10 ?s13y_9_10
  intro K hK
  go_simp
  refine hK.out _ _ S13 (fun hHeld => ?_)
  clear hK K
  refine wpAnyH_done (by kernel_rfl) ?_ _
  go_wp2
  go_end0
  obtain ⟨G, h1, h2⟩ := HQ.out
  exact ⟨rfl, G, h1, h2⟩

end
end Go.Proofs.Ytfjlanhekheecaa
