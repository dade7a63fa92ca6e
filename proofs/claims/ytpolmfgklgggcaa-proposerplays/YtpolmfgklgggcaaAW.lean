/-
  The example of the chapter.
-/
import Derived.Test.YtpolmfgklgggcaaPK
namespace Go.Proofs.Ytpolmfgklgggcaa
open Go.RowKit Go.Maps
set_option linter.unusedVariables false
open M (E V fup)

theorem cell_block {w w' : World} {b : Nat} (h : w'.heap[b]? = w.heap[b]?) (o : Nat) : w'.cell? ⟨b, o, none⟩ = w.cell? ⟨b, o, none⟩ := by
  unfold World.cell?
  simp only [h]
/-- Its states. -/
def e1 : M.S := M.lds (M.S0 3 1) ⟨4, 0⟩ 2
def e2 : M.S := M.prs e1 0 ⟨5, 1⟩ [⟨3, ⟨1, 0⟩, ⟨#[120]⟩⟩]
def e3 : M.S := M.prs e2 0 ⟨5, 1⟩ []
def e4 : M.S := M.pps e3 ⟨#[121]⟩
def e5 : M.S := M.prs e4 2 ⟨5, 1⟩ []
def e6 : M.S := M.fls e5
def e7 : M.S := M.fls e6
def e8 : M.S := M.pps e7 ⟨#[121]⟩
def e9 : M.S := M.sts e8 ⟨6, 0⟩
set_option maxRecDepth 100000 in
set_option maxHeartbeats 2000000 in
theorem awake_any (w : World) : Calls Try.prog 8 #[] w fun e w' => e = .returned (.bool true) ∧ Below w.heap.size w w' := by
  have c1 := newS_any w w (Below.refl _ _) 3 1
  have c2 := fun W => new_any 3 3 W
  have HN1 : Hid (M.nde 3 1 = true) := Hid_of rfl
  have HN2 : Hid (M.nde 3 3 = false) := Hid_of rfl
  have HL1 : Hid (M.lde (M.S0 3 1) ⟨4, 0⟩ 2 = ⟨5, 1⟩) := Hid_of rfl
  have HL2 : Hid (M.ldc (M.S0 3 1) ⟨4, 0⟩ 2 = 0) := Hid_of rfl
  have HC1 : Hid (e1.c = 0) := Hid_of rfl
  have HE2 : Hid (M.prb e1 0 ⟨5, 1⟩ = false) := Hid_of rfl
  have HC2 : Hid (e2.c = 1) := Hid_of rfl
  have HE3 : Hid (M.prb e2 0 ⟨5, 1⟩ = false) := Hid_of rfl
  have HP4 : Hid (M.ppv e3 ⟨#[121]⟩ = ⟨0, ⟨0, 0⟩, ⟨#[]⟩⟩ ∧ M.ppc e3 ⟨#[121]⟩ = 16) := Hid_of ⟨rfl, rfl⟩
  have HC4 : Hid (e4.c = 1) := Hid_of rfl
  have HE5 : Hid (M.prb e4 2 ⟨5, 1⟩ = true) := Hid_of rfl
  have HF5 : Hid (M.flo e5 = [⟨2, ⟨5, 1⟩, ⟨#[]⟩⟩, ⟨3, ⟨5, 1⟩, ⟨#[120]⟩⟩]) := Hid_of rfl
  have HF6 : Hid (M.flo e6 = []) := Hid_of rfl
  have HP8 : Hid (M.ppv e7 ⟨#[121]⟩ = ⟨4, ⟨5, 1⟩, ⟨#[121]⟩⟩ ∧ M.ppc e7 ⟨#[121]⟩ = 0) := Hid_of ⟨rfl, rfl⟩
  have HT8 : Hid (decide (2 ≤ e8.st) = true) := Hid_of rfl
  have HE9 : Hid (M.stb e8 ⟨6, 0⟩ = true) := Hid_of rfl
  have HT9 : Hid (decide (2 ≤ e9.st) = false) := Hid_of rfl
  have HS1 : Hid (M.lds (M.S0 3 1) ⟨4, 0⟩ 2 = e1) := Hid_of rfl
  have HS2 : Hid (M.prs e1 0 ⟨5, 1⟩ [⟨3, ⟨1, 0⟩, ⟨#[120]⟩⟩] = e2) := Hid_of rfl
  have HS3 : Hid (M.prs e2 0 ⟨5, 1⟩ [] = e3) := Hid_of rfl
  have HS4 : Hid (M.pps e3 ⟨#[121]⟩ = e4) := Hid_of rfl
  have HS5 : Hid (M.prs e4 2 ⟨5, 1⟩ [] = e5) := Hid_of rfl
  have HS6 : Hid (M.fls e5 = e6) := Hid_of rfl
  have HS7 : Hid (M.fls e6 = e7) := Hid_of rfl
  have HS8 : Hid (M.pps e7 ⟨#[121]⟩ = e8) := Hid_of rfl
  have HS9 : Hid (M.sts e8 ⟨6, 0⟩ = e9) := Hid_of rfl
  generalize e1 = e1 at *
  generalize e2 = e2 at *
  generalize e3 = e3 at *
  generalize e4 = e4 at *
  generalize e5 = e5 at *
  generalize e6 = e6 at *
  generalize e7 = e7 at *
  generalize e8 = e8 at *
  generalize e9 = e9 at *
  go_enter Try.func8, Try.ntmps8
  go_wp2_with fail
  refine c1.mono ?_
  clear c1
  rintro e w1 (⟨h0, -⟩ | ⟨-, b, F, rfl, h1, hb1, hF1⟩)
  · rw [HN1.out] at h0
    cases h0
  have HQ1 := Hid_of h1
  have HB1 := Hid_of hb1
  clear h1 hb1 hF1
  go_wp2_with fail
  refine (c2 _).mono ?_
  clear c2
  rintro e w2 (⟨-, rfl, rfl⟩ | ⟨h0, -⟩)
  case inr =>
    rw [HN2.out] at h0
    cases h0
  have cl := HQ1.out.lead ⟨4, 0⟩ 2
  rw [HL1.out, HL2.out, HS1.out] at cl
  go_wp2_with fail
  refine cl.mono ?_
  clear cl
  rintro e w3 ⟨F3, rfl, h3, hf3⟩
  have HPw := Hid_of h3
  have HF3 := Hid_of hf3
  obtain ⟨B2, HB2⟩ : ∃ B2, Hid (w3.heap.size = B2) := ⟨_, Hid_of rfl⟩
  obtain ⟨W2, HW2⟩ : ∃ W2, Hid (w3.alloc (.cells #[.int .i64 5, .int .i64 1] 28) = W2) := ⟨_, Hid_of rfl⟩
  have hb2 : Below w3.heap.size w3 W2 := by rw [← HW2.out]; exact bel1 w3 _
  have hr2 : W2.heap[B2]? = some (.cells #[.int .i64 5, .int .i64 1] 28 (0, 0)) := by rw [← HW2.out, ← HB2.out]; exact heap_alloc_last w3 _
  have HP2 := Hid_of (h3.keep hb2)
  have hB2w : w3.heap.size ≤ B2 := Nat.le_of_eq HB2.out
  have hB2W : B2 < W2.heap.size := (Array.getElem?_eq_some_iff.1 hr2).1
  have HS : Hid (∀ wq, (fun wq : World => wq.heap[B2]? = some (.cells #[.int .i64 5, .int .i64 1] 28 (0, 0))) wq → wq.cell? ⟨B2, 0, none⟩ = some (.int .i64 5) ∧ wq.cell? ⟨B2, 1, none⟩ = some (.int .i64 1)) := fun wq hq => (row2 hq).1
  clear h3 hf3 hb2
  go_upto_region 5 with fail
  rw [HW2.out, HB2.out]
  clear HW2 HB2
  refine wp_region_held_drew (S := fun wq : World => wq.heap[B2]? = some (.cells #[.int .i64 5, .int .i64 1] 28 (0, 0))) (by kernel_rfl) hr2 (fun hHeld => ?_)
  obtain ⟨wda, hwda⟩ : ∃ wd, W2.drew = wd := ⟨_, rfl⟩
  have hBwd : Below W2.heap.size W2 wda := by rw [← hwda]; exact Below.drew (Below.refl _ _)
  rw [hwda] at hHeld ⊢
  clear hwda
  refine Tm 0 ?p0a ?v0a hHeld ?r0a
  refine Tk 1 ?p1a ?v1a ?y1a hHeld ?r1a
  case y1a => intro wq hq; obtain ⟨a0, a1⟩ := HS.out wq hq; go_simp; try with_reducible rfl
  refine Tm 2 ?p2a ?v2a hHeld ?r2a
  refine Tm 3 ?p3a ?v3a hHeld ?r3a
  refine Tm 6 ?p6a ?v6a hHeld ?r6a
  refine Tk 7 ?p7a ?v7a ?y7a hHeld ?r7a
  case y7a => intro wq hq; obtain ⟨a0, a1⟩ := HS.out wq hq; go_simp; try with_reducible rfl
  simp only [Act.put, Pa, Pb, Pc]
  refine Rd 4 ?p4a ?s4a
  intro K hK
  go_simp
  obtain ⟨wl, hwl⟩ : ∃ wl, wda.alloc (.cells #[.int .i64 3, .int .i64 1, .int .i64 0, .string ⟨#[120]⟩] 36) = wl := ⟨_, rfl⟩
  rw [hwl]
  have hbl : Below wda.heap.size wda wl := by rw [← hwl]; exact bel1 _ _
  have hl : wl.heap[wda.heap.size]? = some (.cells (vl.cells [⟨3, ⟨1, 0⟩, ⟨#[120]⟩⟩]).toArray 36 (0, 0)) := by rw [← hwl]; exact heap_alloc_last _ _
  obtain ⟨gl, hgl⟩ : ∃ gl, wda.heap.size = gl := ⟨_, rfl⟩
  have hglw : W2.heap.size ≤ gl := by rw [← hgl]; exact hBwd.size
  rw [hgl] at hl ⊢
  clear hwl hgl
  have hbx := bel_up hBwd hbl (Nat.le_refl _)
  have h3 := HP2.out.keep hbx
  have Bl := bel_row hHeld hbl
  refine hK.out _ _ Bl (fun hHeld => ?_)
  clear hK K
  refine Rd 5 ?p5a_4 ?s5a_4
  intro K hK
  go_simp
  refine (h3.promise 0 ⟨5, 1⟩ (some ⟨gl, 0, none⟩) 1 [⟨3, ⟨1, 0⟩, ⟨#[120]⟩⟩] (at_votes hl) (fun _ k hk hF => by
    obtain ⟨_, _, e⟩ := hk
    cases e
    have := (HP2.out.mine gl hF).2
    omega) (by rw [HC1.out]; decide)).mono ?_
  rintro e v5 ⟨G5, rfl, h5, hf5⟩
  rw [HE2.out]
  rw [HS2.out] at h5
  have hB2 : B2 < wl.heap.size := (Array.getElem?_eq_some_iff.1 hHeld).1
  have B5 : v5.heap[B2]? = some (.cells #[.int .i64 5, .int .i64 1] 28 (0, 0)) := (hf5.block B2 hB2 (fun e => by have := (HPw.out.mine B2 e).2; omega)).trans hHeld
  have hG5 : ∀ k, G5 k → k ≠ B2 := fun k hk e => by
    subst e
    rcases hf5.n _ hk with h' | h'
    · have := (HPw.out.mine _ h').2; omega
    · omega
  refine hK.out _ _ B5 (fun hHeld => ?_)
  clear hK K
  refine Rd 8 ?p8a_4_5 ?s8a_4_5
  intro K hK
  go_simp
  refine (h5.promise 0 ⟨5, 1⟩ none 0 [] (AtL.nil _ _) (fun _ k hk => by obtain ⟨_, _, e⟩ := hk; cases e) (by rw [HC2.out]; decide)).mono ?_
  rintro e v8 ⟨G8, rfl, h8, hf8⟩
  rw [HE3.out]
  rw [HS3.out] at h8
  have B8 : v8.heap[B2]? = some (.cells #[.int .i64 5, .int .i64 1] 28 (0, 0)) := (hf8.block B2 (Array.getElem?_eq_some_iff.1 hHeld).1 (fun e => hG5 _ e rfl)).trans hHeld
  have hG8 : ∀ k, G8 k → k ≠ B2 := fun k hk e => by
    subst e
    have := (Array.getElem?_eq_some_iff.1 hHeld).1
    rcases hf8.n _ hk with h' | h'
    · exact hG5 _ h' rfl
    · omega
  refine hK.out _ _ B8 (fun hHeld => ?_)
  clear hK K
  refine Tm 9 ?p9a_4_5_8 ?v9a_4_5_8 hHeld ?r9a_4_5_8
  refine Tm 10 ?p10a_4_5_8 ?v10a_4_5_8 hHeld ?r10a_4_5_8
  simp only [Act.put, Pa, Pb, Pc]
  refine wpAnyH_done (by kernel_rfl) ?_ _
  have cp := h8.propose ⟨#[121]⟩
  rw [HP4.out.1, HP4.out.2, HS4.out] at cp
  have HRa := Hid_of hHeld
  have HGa := Hid_of hG8
  clear hHeld hG5 hG8 h3 h5 hf5 hf8 HS hbl hbx hl hBwd hr2 Bl B5 B8 hB2
  go_wp2_with fail
  refine cp.mono ?_
  clear cp h8
  rintro e w9 ⟨rfl, h9, hf9⟩
  have hr9 := (hf9.block B2 (Array.getElem?_eq_some_iff.1 HRa.out).1 (fun e => HGa.out _ e rfl)).trans HRa.out
  obtain ⟨W10, HW10⟩ : ∃ W10, Hid (w9.alloc (.cells #[.int .i64 0, .int .i64 0, .int .i64 0, .string ⟨#[]⟩] 36) = W10) := ⟨_, Hid_of rfl⟩
  have hb10 : Below w9.heap.size w9 W10 := by rw [← HW10.out]; exact bel1 w9 _
  have hr10 : W10.heap[w9.heap.size]? = some (.cells #[.int .i64 0, .int .i64 0, .int .i64 0, .string ⟨#[]⟩] 36 (0, 0)) := by rw [← HW10.out]; exact heap_alloc_last w9 _
  have h10 := h9.keep hb10
  have q10 := bel_row hr9 hb10
  obtain ⟨⟨x0, x1⟩, -⟩ := row2 q10
  have cp := h10.promise 2 ⟨5, 1⟩ none 0 [] (AtL.nil _ _) (fun _ k hk => by obtain ⟨_, _, e⟩ := hk; cases e) (by rw [HC4.out]; decide)
  rw [HE5.out, HS5.out] at cp
  have HR10 := Hid_of q10
  clear h9 hf9 hr9 hb10 hr10 h10 q10 HRa
  go_upto_region 7 with fail
  rw [HW10.out]
  clear HW10
  go_wp2_with fail
  refine cp.mono ?_
  clear cp x0 x1
  rintro e w11 ⟨G11, rfl, h11, hf11⟩
  have HR11 := Hid_of ((hf11.block B2 (Array.getElem?_eq_some_iff.1 HR10.out).1 (fun e => HGa.out _ e rfl)).trans HR10.out)
  have HG11 : Hid (¬ G11 B2) := fun e => by
    rcases hf11.n _ e with h' | h'
    · exact HGa.out _ h' rfl
    · have := (Array.getElem?_eq_some_iff.1 HR10.out).1; omega
  have cf := h11.fill
  rw [HF5.out, HS6.out] at cf
  clear h11 hf11 HR10 HGa
  go_wp2_with fail
  refine cf.mono ?_
  clear cf
  rintro e w12 ⟨G12, ad, c12, rfl, hx12, hbk12, h12, hf12⟩
  have HR12 := Hid_of ((hf12.block B2 (Array.getElem?_eq_some_iff.1 HR11.out).1 HG11.out).trans HR11.out)
  have HG12 : Hid (¬ G12 B2) := fun e => by
    rcases hf12.n _ e with h' | h'
    · exact HG11.out h'
    · have := (Array.getElem?_eq_some_iff.1 HR11.out).1; omega
  have cf := h12.fill
  rw [HF6.out, HS7.out] at cf
  have HXB : Hid (XB w12 G12 ad c12 [⟨2, ⟨5, 1⟩, ⟨#[]⟩⟩, ⟨3, ⟨5, 1⟩, ⟨#[120]⟩⟩]) := ⟨hx12, fun k hk => (hbk12 k hk).2.1, fun k hk => (hbk12 k hk).2.2⟩
  clear h12 hf12 HR11 HG11 hx12 hbk12
  go_wp2_with fail
  refine cf.mono ?_
  clear cf
  rintro e w13 ⟨G13, ad13, c13, rfl, -, -, h13, hf13⟩
  have HR13 := Hid_of ((hf13.block B2 (Array.getElem?_eq_some_iff.1 HR12.out).1 HG12.out).trans HR12.out)
  have HG13 : Hid (¬ G13 B2) := fun e => by
    rcases hf13.n _ e with h' | h'
    · exact HG12.out h'
    · have := (Array.getElem?_eq_some_iff.1 HR12.out).1; omega
  have HX13 := Hid_of (HXB.out.step hf13)
  have cp := h13.propose ⟨#[121]⟩
  rw [HP8.out.1, HP8.out.2, HS8.out] at cp
  clear h13 hf13 HR12 HG12 HXB
  go_wp2_with fail
  refine cp.mono ?_
  clear cp
  rintro e w14 ⟨rfl, h14, hf14⟩
  have HR14 := Hid_of ((hf14.block B2 (Array.getElem?_eq_some_iff.1 HR13.out).1 HG13.out).trans HR13.out)
  have HX14 := Hid_of (HX13.out.step hf14)
  obtain ⟨W15, HW15⟩ : ∃ W15, Hid (w14.alloc (.cells #[.int .i64 4, .int .i64 5, .int .i64 1, .string ⟨#[121]⟩] 36) = W15) := ⟨_, Hid_of rfl⟩
  have hb15 : Below w14.heap.size w14 W15 := by rw [← HW15.out]; exact bel1 w14 _
  have hr15 : W15.heap[w14.heap.size]? = some (.cells #[.int .i64 4, .int .i64 5, .int .i64 1, .string ⟨#[121]⟩] 36 (0, 0)) := by rw [← HW15.out]; exact heap_alloc_last w14 _
  have h15 := h14.keep hb15
  have HP15 := Hid_of h15
  have qr2 := bel_row HR14.out hb15
  obtain ⟨ba, oa, rfl, v00, v01, v02, v03⟩ := (HX14.out.xl.keep hb15).at'.getV 0 (by simp)
  obtain ⟨ba', oa', ea, v10, v11, v12, v13⟩ := (HX14.out.xl.keep hb15).at'.getV 1 (by simp)
  cases ea
  simp only [List.getElem_cons_zero, List.getElem_cons_succ, Nat.zero_mul, Nat.add_zero, Nat.one_mul] at v00 v01 v02 v03 v10 v11 v12 v13
  obtain ⟨⟨x0, x1⟩, -⟩ := row2 (bel_row HR14.out hb15)
  obtain ⟨⟨y0, y1, y2, y3⟩, -⟩ := row4 hr15
  have he := eq28 5 1 5 1
  have HS10 : Hid (∀ wq, (fun wq : World => wq.heap[B2]? = some (.cells #[.int .i64 5, .int .i64 1] 28 (0, 0)) ∧ wq.cell? ⟨ba, oa + 3, none⟩ = some (.string ⟨#[]⟩) ∧ wq.cell? ⟨ba, oa + 4 + 1, none⟩ = some (.int .i64 5) ∧ wq.cell? ⟨ba, oa + 4 + 2, none⟩ = some (.int .i64 1) ∧ wq.cell? ⟨ba, oa + 4 + 3, none⟩ = some (.string ⟨#[120]⟩) ∧ wq.cell? ⟨w14.heap.size, 0, none⟩ = some (.int .i64 4)) wq → wq.cell? ⟨B2, 0, none⟩ = some (.int .i64 5) ∧ wq.cell? ⟨B2, 1, none⟩ = some (.int .i64 1) ∧ wq.cell? ⟨ba, oa + 3, none⟩ = some (.string ⟨#[]⟩) ∧ wq.cell? ⟨ba, oa + 4 + 1, none⟩ = some (.int .i64 5) ∧ wq.cell? ⟨ba, oa + 4 + 2, none⟩ = some (.int .i64 1) ∧ wq.cell? ⟨ba, oa + 4 + 3, none⟩ = some (.string ⟨#[120]⟩) ∧ wq.cell? ⟨w14.heap.size, 0, none⟩ = some (.int .i64 4)) := fun wq hq => ⟨(row2 hq.1).1.1, (row2 hq.1).1.2, hq.2⟩
  have HSF : Hid (∀ wa wb, (fun wq : World => wq.heap[B2]? = some (.cells #[.int .i64 5, .int .i64 1] 28 (0, 0)) ∧ wq.cell? ⟨ba, oa + 3, none⟩ = some (.string ⟨#[]⟩) ∧ wq.cell? ⟨ba, oa + 4 + 1, none⟩ = some (.int .i64 5) ∧ wq.cell? ⟨ba, oa + 4 + 2, none⟩ = some (.int .i64 1) ∧ wq.cell? ⟨ba, oa + 4 + 3, none⟩ = some (.string ⟨#[120]⟩) ∧ wq.cell? ⟨w14.heap.size, 0, none⟩ = some (.int .i64 4)) wa → W15.heap.size ≤ wa.heap.size → ∀ {G : Nat → Prop}, Fr wa G13 wb G → (fun wq : World => wq.heap[B2]? = some (.cells #[.int .i64 5, .int .i64 1] 28 (0, 0)) ∧ wq.cell? ⟨ba, oa + 3, none⟩ = some (.string ⟨#[]⟩) ∧ wq.cell? ⟨ba, oa + 4 + 1, none⟩ = some (.int .i64 5) ∧ wq.cell? ⟨ba, oa + 4 + 2, none⟩ = some (.int .i64 1) ∧ wq.cell? ⟨ba, oa + 4 + 3, none⟩ = some (.string ⟨#[120]⟩) ∧ wq.cell? ⟨w14.heap.size, 0, none⟩ = some (.int .i64 4)) wb) := by
    intro wa wb ha hsz G hf
    have hba : ba < w14.heap.size ∧ ¬ G13 ba := ⟨HX14.out.lt ba ⟨_, _, rfl⟩, HX14.out.ap ba ⟨_, _, rfl⟩⟩
    have hs15 := hb15.size
    have hs14 := hf14.size
    have hl15 : w14.heap.size < W15.heap.size := (Array.getElem?_eq_some_iff.1 hr15).1
    have hg15 : ¬ G13 w14.heap.size := fun e => by have := (h14.mine _ e).2; omega
    have k1 : ∀ o, wb.cell? ⟨ba, o, none⟩ = wa.cell? ⟨ba, o, none⟩ := fun o => cell_block (hf.block ba (by omega) hba.2) o
    have k2 : ∀ o, wb.cell? ⟨w14.heap.size, o, none⟩ = wa.cell? ⟨w14.heap.size, o, none⟩ := fun o => cell_block (hf.block w14.heap.size (by omega) hg15) o
    refine ⟨(hf.block B2 ((Array.getElem?_eq_some_iff.1 ha.1).1) HG13.out).trans ha.1, ?_⟩
    rw [k1, k1, k1, k1, k2]
    exact ha.2
  clear h14 hf14 hb15 hr15 h15 HR13 HG13 HX13 HX14 HR14
  go_upto_region 10 with fail
  rw [HW15.out]
  clear HW15
  simp only [List.append]
  refine wp_region_held_drew (S := fun wq : World => wq.heap[B2]? = some (.cells #[.int .i64 5, .int .i64 1] 28 (0, 0)) ∧ wq.cell? ⟨ba, oa + 3, none⟩ = some (.string ⟨#[]⟩) ∧ wq.cell? ⟨ba, oa + 4 + 1, none⟩ = some (.int .i64 5) ∧ wq.cell? ⟨ba, oa + 4 + 2, none⟩ = some (.int .i64 1) ∧ wq.cell? ⟨ba, oa + 4 + 3, none⟩ = some (.string ⟨#[120]⟩) ∧ wq.cell? ⟨w14.heap.size, 0, none⟩ = some (.int .i64 4)) (by kernel_rfl) ⟨qr2, v03, v11, v12, v13, y0⟩ (fun hHeld => ?_)
  obtain ⟨wdb, hwdb⟩ : ∃ wd, W15.drew = wd := ⟨_, rfl⟩
  have hBwd : Below W15.heap.size W15 wdb := by rw [← hwdb]; exact Below.drew (Below.refl _ _)
  rw [hwdb] at hHeld ⊢
  clear hwdb
  refine Tk 0 ?p0b ?v0b ?y0b hHeld ?r0b
  case y0b => intro wq hq; obtain ⟨q0, q1, q2, q3, q4, q5, q6⟩ := HS10.out wq hq; go_simp; try with_reducible rfl
  simp only [Act.put, Pa, Pb, Pc]
  refine Tm 1 ?p1b ?v1b hHeld ?r1b
  simp only [Act.put, Pa, Pb, Pc]
  refine Tm 2 ?p2b ?v2b hHeld ?r2b
  simp only [Act.put, Pa, Pb, Pc]
  refine Tm 3 ?p3b ?v3b hHeld ?r3b
  simp only [Act.put, Pa, Pb, Pc]
  refine Tm 4 ?p4b ?v4b hHeld ?r4b
  simp only [Act.put, Pa, Pb, Pc]
  refine Tm 5 ?p5b ?v5b hHeld ?r5b
  simp only [Act.put, Pa, Pb, Pc]
  refine Tm 6 ?p6b ?v6b hHeld ?r6b
  simp only [Act.put, Pa, Pb, Pc]
  refine Tm 7 ?p7b ?v7b hHeld ?r7b
  simp only [Act.put, Pa, Pb, Pc]
  refine Tm 8 ?p8b ?v8b hHeld ?r8b
  simp only [Act.put, Pa, Pb, Pc]
  refine Tm 9 ?p9b ?v9b hHeld ?r9b
  simp only [Act.put, Pa, Pb, Pc]
  refine Tm 10 ?p10b ?v10b hHeld ?r10b
  simp only [Act.put, Pa, Pb, Pc]
  refine Tm 11 ?p11b ?v11b hHeld ?r11b
  simp only [Act.put, Pa, Pb, Pc]
  refine Tm 12 ?p12b ?v12b hHeld ?r12b
  simp only [Act.put, Pa, Pb, Pc]
  refine Tm 13 ?p13b ?v13b hHeld ?r13b
  simp only [Act.put, Pa, Pb, Pc]
  refine Tm 14 ?p14b ?v14b hHeld ?r14b
  simp only [Act.put, Pa, Pb, Pc]
  refine Tm 15 ?p15b ?v15b hHeld ?r15b
  simp only [Act.put, Pa, Pb, Pc]
  refine Tm 16 ?p16b ?v16b hHeld ?r16b
  simp only [Act.put, Pa, Pb, Pc]
  refine Tm 17 ?p17b ?v17b hHeld ?r17b
  simp only [Act.put, Pa, Pb, Pc]
  refine Tm 18 ?p18b ?v18b hHeld ?r18b
  simp only [Act.put, Pa, Pb, Pc]
  refine Tm 19 ?p19b ?v19b hHeld ?r19b
  simp only [Act.put, Pa, Pb, Pc]
  refine Tm 20 ?p20b ?v20b hHeld ?r20b
  simp only [Act.put, Pa, Pb, Pc]
  refine Tm 21 ?p21b ?v21b hHeld ?r21b
  simp only [Act.put, Pa, Pb, Pc]
  refine Tm 22 ?p22b ?v22b hHeld ?r22b
  simp only [Act.put, Pa, Pb, Pc]
  refine Tm 23 ?p23b ?v23b hHeld ?r23b
  simp only [Act.put, Pa, Pb, Pc]
  refine Rd 24 ?p24b ?s24b
  intro K hK
  go_simp
  refine (HP15.out.keep hBwd).leads.mono ?_
  rw [HT8.out]
  rintro e v24 ⟨rfl, hq⟩
  obtain rfl := hq.symm
  clear hq
  refine hK.out _ _ hHeld (fun hHeld => ?_)
  clear hK K
  refine Tm 25 ?p25b_24 ?v25b_24 hHeld ?r25b_24
  simp only [Act.put, Pa, Pb, Pc]
  refine Tm 26 ?p26b_24 ?v26b_24 hHeld ?r26b_24
  simp only [Act.put, Pa, Pb, Pc]
  refine Tm 27 ?p27b_24 ?v27b_24 hHeld ?r27b_24
  simp only [Act.put, Pa, Pb, Pc]
  refine Tm 28 ?p28b_24 ?v28b_24 hHeld ?r28b_24
  simp only [Act.put, Pa, Pb, Pc]
  refine Tm 29 ?p29b_24 ?v29b_24 hHeld ?r29b_24
  simp only [Act.put, Pa, Pb, Pc]
  refine Tm 30 ?p30b_24 ?v30b_24 hHeld ?r30b_24
  simp only [Act.put, Pa, Pb, Pc]
  refine Tm 31 ?p31b_24 ?v31b_24 hHeld ?r31b_24
  simp only [Act.put, Pa, Pb, Pc]
  refine Tm 32 ?p32b_24 ?v32b_24 hHeld ?r32b_24
  simp only [Act.put, Pa, Pb, Pc]
  refine Tm 33 ?p33b_24 ?v33b_24 hHeld ?r33b_24
  simp only [Act.put, Pa, Pb, Pc]
  refine Tm 34 ?p34b_24 ?v34b_24 hHeld ?r34b_24
  simp only [Act.put, Pa, Pb, Pc]
  refine Tk 35 ?p35b_24 ?v35b_24 ?y35b_24 hHeld ?r35b_24
  case y35b_24 => intro wq hq; obtain ⟨q0, q1, q2, q3, q4, q5, q6⟩ := HS10.out wq hq; go_simp; try with_reducible rfl
  simp only [Act.put, Pa, Pb, Pc]
  refine Tm 36 ?p36b_24 ?v36b_24 hHeld ?r36b_24
  simp only [Act.put, Pa, Pb, Pc]
  refine Tm 37 ?p37b_24 ?v37b_24 hHeld ?r37b_24
  simp only [Act.put, Pa, Pb, Pc]
  refine Tm 38 ?p38b_24 ?v38b_24 hHeld ?r38b_24
  simp only [Act.put, Pa, Pb, Pc]
  refine Tm 39 ?p39b_24 ?v39b_24 hHeld ?r39b_24
  simp only [Act.put, Pa, Pb, Pc]
  refine Tm 40 ?p40b_24 ?v40b_24 hHeld ?r40b_24
  simp only [Act.put, Pa, Pb, Pc]
  refine Tm 41 ?p41b_24 ?v41b_24 hHeld ?r41b_24
  simp only [Act.put, Pa, Pb, Pc]
  refine Tk 42 ?p42b_24 ?v42b_24 ?y42b_24 hHeld ?r42b_24
  case y42b_24 => intro wq hq; obtain ⟨q0, q1, q2, q3, q4, q5, q6⟩ := HS10.out wq hq; go_simp; try with_reducible rfl
  simp only [Act.put, Pa, Pb, Pc]
  refine Tm 43 ?p43b_24 ?v43b_24 hHeld ?r43b_24
  simp only [Act.put, Pa, Pb, Pc]
  refine Tm 44 ?p44b_24 ?v44b_24 hHeld ?r44b_24
  simp only [Act.put, Pa, Pb, Pc]
  refine Tm 45 ?p45b_24 ?v45b_24 hHeld ?r45b_24
  simp only [Act.put, Pa, Pb, Pc]
  refine Tm 46 ?p46b_24 ?v46b_24 hHeld ?r46b_24
  simp only [Act.put, Pa, Pb, Pc]
  refine Tm 47 ?p47b_24 ?v47b_24 hHeld ?r47b_24
  simp only [Act.put, Pa, Pb, Pc]
  refine Tm 48 ?p48b_24 ?v48b_24 hHeld ?r48b_24
  simp only [Act.put, Pa, Pb, Pc]
  refine Tk 49 ?p49b_24 ?v49b_24 ?y49b_24 hHeld ?r49b_24
  case y49b_24 => intro wq hq; obtain ⟨q0, q1, q2, q3, q4, q5, q6⟩ := HS10.out wq hq; go_simp; try with_reducible rfl
  simp only [Act.put, Pa, Pb, Pc]
  refine Tk 50 ?p50b_24 ?v50b_24 ?y50b_24 hHeld ?r50b_24
  case y50b_24 => intro wq hq; obtain ⟨q0, q1, q2, q3, q4, q5, q6⟩ := HS10.out wq hq; go_simp; try with_reducible rfl
  simp only [Act.put, Pa, Pb, Pc]
  refine Tm 51 ?p51b_24 ?v51b_24 hHeld ?r51b_24
  simp only [Act.put, Pa, Pb, Pc]
  refine Tm 52 ?p52b_24 ?v52b_24 hHeld ?r52b_24
  simp only [Act.put, Pa, Pb, Pc]
  refine Tm 53 ?p53b_24 ?v53b_24 hHeld ?r53b_24
  simp only [Act.put, Pa, Pb, Pc]
  refine Tm 54 ?p54b_24 ?v54b_24 hHeld ?r54b_24
  simp only [Act.put, Pa, Pb, Pc]
  refine Tm 55 ?p55b_24 ?v55b_24 hHeld ?r55b_24
  simp only [Act.put, Pa, Pb, Pc]
  refine Tm 56 ?p56b_24 ?v56b_24 hHeld ?r56b_24
  simp only [Act.put, Pa, Pb, Pc]
  refine Tm 57 ?p57b_24 ?v57b_24 hHeld ?r57b_24
  simp only [Act.put, Pa, Pb, Pc]
  refine Tm 58 ?p58b_24 ?v58b_24 hHeld ?r58b_24
  simp only [Act.put, Pa, Pb, Pc]
  refine Tm 59 ?p59b_24 ?v59b_24 hHeld ?r59b_24
  simp only [Act.put, Pa, Pb, Pc]
  refine Tk 60 ?p60b_24 ?v60b_24 ?y60b_24 hHeld ?r60b_24
  case y60b_24 => intro wq hq; obtain ⟨q0, q1, q2, q3, q4, q5, q6⟩ := HS10.out wq hq; go_simp; try with_reducible rfl
  simp only [Act.put, Pa, Pb, Pc]
  refine Tm 61 ?p61b_24 ?v61b_24 hHeld ?r61b_24
  simp only [Act.put, Pa, Pb, Pc]
  refine Tm 62 ?p62b_24 ?v62b_24 hHeld ?r62b_24
  simp only [Act.put, Pa, Pb, Pc]
  refine Tm 63 ?p63b_24 ?v63b_24 hHeld ?r63b_24
  simp only [Act.put, Pa, Pb, Pc]
  refine Tm 64 ?p64b_24 ?v64b_24 hHeld ?r64b_24
  simp only [Act.put, Pa, Pb, Pc]
  refine Tm 65 ?p65b_24 ?v65b_24 hHeld ?r65b_24
  simp only [Act.put, Pa, Pb, Pc]
  refine Tm 66 ?p66b_24 ?v66b_24 hHeld ?r66b_24
  simp only [Act.put, Pa, Pb, Pc]
  refine Tm 67 ?p67b_24 ?v67b_24 hHeld ?r67b_24
  simp only [Act.put, Pa, Pb, Pc]
  refine Tm 68 ?p68b_24 ?v68b_24 hHeld ?r68b_24
  simp only [Act.put, Pa, Pb, Pc]
  refine Tm 69 ?p69b_24 ?v69b_24 hHeld ?r69b_24
  simp only [Act.put, Pa, Pb, Pc]
  refine Rd 70 ?p70b_24 ?s70b_24
  intro K hK
  go_simp
  refine ((HP15.out.keep hBwd).stepB ⟨6, 0⟩).mono ?_
  rw [HE9.out, HS9.out]
  rintro e w17 ⟨G17, rfl, h17, hf17⟩
  have HBZ := Hid_of h17.bel
  have B17 := HSF.out _ _ hHeld hBwd.size hf17
  clear hf17 hBwd
  refine hK.out _ _ B17 (fun hHeld => ?_)
  clear hK K
  refine Tm 71 ?p71b_24_70 ?v71b_24_70 hHeld ?r71b_24_70
  simp only [Act.put, Pa, Pb, Pc]
  refine Tm 72 ?p72b_24_70 ?v72b_24_70 hHeld ?r72b_24_70
  simp only [Act.put, Pa, Pb, Pc]
  refine Tm 73 ?p73b_24_70 ?v73b_24_70 hHeld ?r73b_24_70
  simp only [Act.put, Pa, Pb, Pc]
  refine Rd 74 ?p74b_24_70 ?s74b_24_70
  intro K hK
  go_simp
  refine h17.leads.mono ?_
  rw [HT9.out]
  rintro e v74 ⟨rfl, hq⟩
  obtain rfl := hq.symm
  clear hq
  refine hK.out _ _ hHeld (fun hHeld => ?_)
  clear hK K
  refine Tm 75 ?p75b_24_70_74 ?v75b_24_70_74 hHeld ?r75b_24_70_74
  simp only [Act.put, Pa, Pb, Pc]
  refine Tm 76 ?p76b_24_70_74 ?v76b_24_70_74 hHeld ?r76b_24_70_74
  simp only [Act.put, Pa, Pb, Pc]
  refine Tm 77 ?p77b_24_70_74 ?v77b_24_70_74 hHeld ?r77b_24_70_74
  simp only [Act.put, Pa, Pb]
  refine wpAnyH_done (by kernel_rfl) ?_ _
  go_wp2
  go_ret
  exact ⟨rfl, HBZ.out⟩

end Go.Proofs.Ytpolmfgklgggcaa
