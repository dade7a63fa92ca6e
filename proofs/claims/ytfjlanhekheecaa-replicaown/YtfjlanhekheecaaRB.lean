/-
  The next slot, the log, whether it leads; what it asks for.
-/
import Derived.Test.YtfjlanhekheecaaRQ
namespace Go.Proofs.Ytfjlanhekheecaa
open Go.RowKit Go.Maps
set_option linter.unusedVariables false
open M (E V)
open Rm (NT R)

section
variable {w0 w : World} {b ba bp bl : Nat} {Fa Fp Fl : Nat → Prop} {r : R}
theorem RP.next (h : RP w0 w b ba bp bl Fa Fp Fl r) : Calls Try.prog 20 #[ptr b] w fun e w' => e = .returned (.int .i64 (Nl.M.nx r.l)) ∧ w' = w := by
  have cn := h.ls.next
  obtain ⟨⟨c0, c1, c2, c3, c4⟩, _⟩ := row5 h.row
  clear h
  go_enter Try.func20, Try.ntmps20
  go_wp2_with fail
  refine cn.mono ?_
  rintro e w1 ⟨rfl, rfl⟩
  go_wp2
  go_ret
  exact ⟨rfl, rfl⟩
theorem RP.leads (h : RP w0 w b ba bp bl Fa Fp Fl r) : Calls Try.prog 21 #[ptr b] w fun e w' => e = .returned (.bool (decide (2 ≤ r.p.st))) ∧ w' = w := by
  have cn := h.ps.leads
  obtain ⟨⟨c0, c1, c2, c3, c4⟩, _⟩ := row5 h.row
  clear h
  go_enter Try.func21, Try.ntmps21
  go_wp2_with fail
  refine cn.mono ?_
  rintro e w1 ⟨rfl, rfl⟩
  go_wp2
  go_ret
  exact ⟨rfl, rfl⟩
theorem RP.log (h : RP w0 w b ba bp bl Fa Fp Fl r) : Calls Try.prog 19 #[ptr b] w fun e w' => ∃ ad c, e = .returned (.slice ad (Rm.logL r).length c) ∧ XL Nl.tl w' ad c (Rm.logL r) ∧ (∀ j, blk ad j → w.heap.size ≤ j ∧ j < w'.heap.size) ∧ Below w.heap.size w w' := by
  have cb : ∀ wq, Below w.heap.size w wq → Calls Try.prog 40 #[ptr bl] wq fun e w' => e = .returned (.int .i64 r.l.base) ∧ w' = wq := fun wq hq => (h.ls.keep hq).base
  have cl := fun wq (hq : Below w.heap.size w wq) => (h.ls.keep hq).log r.l.base
  have HS : Hid (∀ wq, Below w.heap.size w wq → wq.cell? ⟨b, 0, none⟩ = some (.int .i64 r.n) ∧ wq.cell? ⟨b, 1, none⟩ = some (.int .i64 r.me) ∧ wq.cell? ⟨b, 2, none⟩ = some (ptr ba) ∧ wq.cell? ⟨b, 3, none⟩ = some (ptr bp) ∧ wq.cell? ⟨b, 4, none⟩ = some (ptr bl)) := fun wq hq => (row5 (bel_row h.row hq)).1
  obtain ⟨⟨c0, c1, c2, c3, c4⟩, _⟩ := row5 h.row
  have HL : Hid (Nl.M.lgs r.l r.l.base = Rm.logL r) := rfl
  clear h
  go_enter Try.func19, Try.ntmps19
  go_upto_region 3 with fail
  refine wp_region_held_drew (S := fun wq => Below (w).heap.size (w) wq) (by kernel_rfl) (Below.drew (Below.refl _ _)) (fun hHeld => ?_)
  obtain ⟨wdx, hwdx⟩ : ∃ wd, w.drew = wd := ⟨_, rfl⟩
  have hBwd : Below w.heap.size w wdx := by rw [← hwdx]; exact Below.drew (Below.refl _ _)
  rw [hwdx] at hHeld ⊢
  clear hwdx
  refine Tm 0 ?p0x ?v0x hHeld ?r0x
  refine Tm 1 ?p1x ?v1x hHeld ?r1x
  refine Tm 2 ?p2x ?v2x hHeld ?r2x
  refine Tk 3 ?p3x ?v3x ?y3x hHeld ?r3x
  case y3x => intro wq hq; obtain ⟨b0, b1, b2, b3, b4⟩ := HS.out wq hq; go_simp; try with_reducible rfl
  refine Tm 4 ?p4x ?v4x hHeld ?r4x
  refine Tm 5 ?p5x ?v5x hHeld ?r5x
  refine Tm 6 ?p6x ?v6x hHeld ?r6x
  refine Tk 7 ?p7x ?v7x ?y7x hHeld ?r7x
  case y7x => intro wq hq; obtain ⟨b0, b1, b2, b3, b4⟩ := HS.out wq hq; go_simp; try with_reducible rfl
  simp only [Act.put, Pa, Pb, Pc]
  refine Rd 8 ?p8x ?s8x
  intro K hK
  go_simp
  refine (cb _ hHeld).mono ?_
  rintro e v8 ⟨rfl, rfl⟩
  refine hK.out _ _ hHeld (fun hHeld => ?_)
  clear hK K
  refine Rd 9 ?p9x_8 ?s9x_8
  intro K hK
  go_simp
  refine (cl _ hHeld).mono ?_
  rintro e v9 ⟨ad, c, rfl, hx, hk, hb⟩
  rw [HL.out] at hx ⊢
  have hb2 := bel_up hHeld hb (Nat.le_refl _)
  have HX := Hid_of hx
  have HK : Hid (∀ j, blk ad j → w.heap.size ≤ j ∧ j < v9.heap.size) := fun j hj => ⟨Nat.le_trans hHeld.size (hk j hj).1, (hk j hj).2⟩
  clear hx hb hk
  refine hK.out _ _ hb2 (fun hHeld => ?_)
  clear hK K
  refine Tm 10 ?p10x_8_9 ?v10x_8_9 hHeld ?r10x_8_9
  simp only [Act.put, Pa, Pb, Pc]
  refine wpAnyH_done (by kernel_rfl) ?_ _
  have HB := Hid_of hb2
  go_wp2
  go_ret
  exact ⟨ad, c, rfl, HX.out, HK.out, HB.out⟩

/-- What it asks for. -/
theorem RP.ask (h : RP w0 w b ba bp bl Fa Fp Fl r) (dst : Int) : Calls Try.prog 12 #[ptr b, .int .i64 dst] w fun e w' => ∃ u, e = .returned u ∧ NO w (uni b Fa Fp Fl) u w' (Rm.akN r dst) ∧ Below w.heap.size w w' := by
  have ci := isNode_any h.row dst
  have HLT := Hid_of (fun k hk => (h.mine k hk).2)
  have cn : ∀ wq, Below w.heap.size w wq → Calls Try.prog 27 #[ptr bl] wq fun e w' => e = .returned (.int .i64 (Nl.M.nx r.l)) ∧ w' = wq := fun wq hq => (h.ls.keep hq).next
  have HS : Hid (∀ wq, Below w.heap.size w wq → wq.cell? ⟨b, 0, none⟩ = some (.int .i64 r.n) ∧ wq.cell? ⟨b, 1, none⟩ = some (.int .i64 r.me) ∧ wq.cell? ⟨b, 2, none⟩ = some (ptr ba) ∧ wq.cell? ⟨b, 3, none⟩ = some (ptr bp) ∧ wq.cell? ⟨b, 4, none⟩ = some (ptr bl)) := fun wq hq => (row5 (bel_row h.row hq)).1
  clear h
  cases hi : Rm.isN r dst with
  | false =>
    have HN : Hid (Rm.akN r dst = []) := Hid_of (by unfold Rm.akN; rw [hi]; rfl)
    rw [hi] at ci
    clear hi cn HS
    go_enter Try.func12, Try.ntmps12
    go_wp2_with fail
    refine ci.mono ?_
    rintro e w1 ⟨rfl, rfl⟩
    go_wp2
    go_ret
    exact ⟨_, rfl, by rw [HN.out]; exact NO.nil _ _ _, Below.refl _ _⟩
  | true =>
    have HN : Hid (Rm.akN r dst = [⟨5, r.me, dst, Nl.M.nx r.l, Rm.e0, []⟩]) := Hid_of (by unfold Rm.akN; rw [hi]; rfl)
    rw [hi] at ci
    have HFIN : Hid (∀ gv wv, Below w.heap.size w wv → w.heap.size ≤ gv → wv.heap[gv]? = some (.cells (nl.cs ⟨⟨5, r.me, dst, Nl.M.nx r.l, ⟨0, 0⟩, []⟩, none, 0⟩).toArray 32 (0, 0)) → ∃ u, Ending.returned (.slice (some ⟨gv, 0, none⟩) 1 1) = .returned u ∧ NO w (uni b Fa Fp Fl) u wv (Rm.akN r dst) ∧ Below w.heap.size w wv) := fun gv wv hb hg hrv => by
      rw [HN.out]
      exact ⟨_, rfl, NO.one hrv hg (fun hk => by have := HLT.out _ hk; omega) (XN.emp _ _ rfl rfl rfl), hb⟩
    clear hi
    go_enter Try.func12, Try.ntmps12
    go_wp2_with fail
    refine ci.mono ?_
    rintro e w1 ⟨rfl, rfl⟩
    clear ci
    go_upto_region 3 with fail
    refine wp_region_held_drew (S := fun wq => Below (w1).heap.size (w1) wq) (by kernel_rfl) (Below.drew (Below.refl _ _)) (fun hHeld => ?_)
    obtain ⟨wdx, hwdx⟩ : ∃ wd, w1.drew = wd := ⟨_, rfl⟩
    have hBwd : Below w1.heap.size w1 wdx := by rw [← hwdx]; exact Below.drew (Below.refl _ _)
    rw [hwdx] at hHeld ⊢
    clear hwdx
    refine Tm 0 ?p0x ?v0x hHeld ?r0x
    refine Tm 1 ?p1x ?v1x hHeld ?r1x
    refine Tm 2 ?p2x ?v2x hHeld ?r2x
    refine Tk 3 ?p3x ?v3x ?y3x hHeld ?r3x
    case y3x => intro wq hq; obtain ⟨b0, b1, b2, b3, b4⟩ := HS.out wq hq; go_simp; try with_reducible rfl
    refine Tm 4 ?p4x ?v4x hHeld ?r4x
    refine Tm 5 ?p5x ?v5x hHeld ?r5x
    refine Tm 6 ?p6x ?v6x hHeld ?r6x
    refine Tm 7 ?p7x ?v7x hHeld ?r7x
    refine Tk 8 ?p8x ?v8x ?y8x hHeld ?r8x
    case y8x => intro wq hq; obtain ⟨b0, b1, b2, b3, b4⟩ := HS.out wq hq; go_simp; try with_reducible rfl
    simp only [Act.put, Pa, Pb, Pc]
    refine Rd 9 ?p9x ?s9x
    intro K hK
    go_simp
    refine (cn _ hHeld).mono ?_
    rintro e v9 ⟨rfl, rfl⟩
    refine hK.out _ _ hHeld (fun hHeld => ?_)
    clear hK K
    refine Tm 10 ?p10x_9 ?v10x_9 hHeld ?r10x_9
    simp only [Act.put, Pa, Pb, Pc]
    refine Rd 11 ?p11x_9 ?s11x_9
    intro K hK
    go_simp
    obtain ⟨wv, hwv⟩ : ∃ wv, v9.alloc (.cells #[.int .i64 5, .int .i64 r.me, .int .i64 dst, .int .i64 (Nl.M.nx r.l), .int .i64 0, .int .i64 0, .slice none 0 0] 32) = wv := ⟨_, rfl⟩
    have hbv : Below v9.heap.size v9 wv := by rw [← hwv]; exact bel1 _ _
    have hrv : wv.heap[v9.heap.size]? = some (.cells (nl.cs ⟨⟨5, r.me, dst, Nl.M.nx r.l, ⟨0, 0⟩, []⟩, none, 0⟩).toArray 32 (0, 0)) := by rw [← hwv]; exact heap_alloc_last _ _
    obtain ⟨gv, hgv⟩ : ∃ gv, v9.heap.size = gv := ⟨_, rfl⟩
    rw [hwv]
    rw [hgv] at hrv ⊢
    have hgv' : w1.heap.size ≤ gv := by rw [← hgv]; exact hHeld.size
    have hbv2 : Below w1.heap.size w1 wv := bel_up hHeld hbv (Nat.le_refl _)
    clear hwv hgv hbv
    refine hK.out _ _ hbv2 (fun hHeld => ?_)
    clear hK K
    refine Tm 12 ?p12x_9_11 ?v12x_9_11 hHeld ?r12x_9_11
    simp only [Act.put, Pa, Pb, Pc]
    refine wpAnyH_done (by kernel_rfl) ?_ _
    have HQ := HFIN.out _ _ hbv2 hgv' hrv
    go_wp2
    go_ret
    exact HQ

end
end Go.Proofs.Ytfjlanhekheecaa
