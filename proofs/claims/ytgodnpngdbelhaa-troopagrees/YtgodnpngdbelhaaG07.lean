/-
  A vote counts for its slot.
-/
import Derived.Test.YtgodnpngdbelhaaG06
namespace Go.Proofs.Ytgodnpngdbelhaa.Np
open Go.RowKit Go.Maps
set_option linter.unusedVariables false
open Go.Proofs.Ytgodnpngdbelhaa.M (E V)
open Go.Proofs.Ytgodnpngdbelhaa.Np.M (fup)

theorem at_votes {w : World} {g : Nat} {l : List V} (h : w.heap[g]? = some (.cells (vl.cells l).toArray 84 (0, 0))) : AtL vl w (some ⟨g, 0, none⟩) l := by
  intro j hj
  refine ⟨g, 0, rfl, fun q hq => ?_⟩
  rw [cell_of_row w g _ _ _ _ h, List.getElem?_toArray, Nat.zero_add]
  exact vl.get l j hj q hq
theorem MI.mono {w : World} {m n n' : Nat} {f : Int → Option V} (h : MI w m n f) (hn : n ≤ n') : MI w m n' f := by
  obtain ⟨D, hD, h⟩ := h
  exact ⟨D, hD.mono hn, h⟩
theorem eq95_some (m : Nat) (w : World) : (binOp .eql 95 (.map (some m)) (.map none)).run Try.prog w = .ok (.bool false) w := by kernel_rfl
theorem eq95_none (w : World) : (binOp .eql 95 (.map none) (.map none)).run Try.prog w = .ok (.bool true) w := by kernel_rfl
/-- What count leaves. -/
def CtOut (w : World) (base b : Nat) (mv : Option Nat) (s : M.S) (x : V) (e : Ending) (w' : World) : Prop := ∃ mv', e = .returned (.tuple #[]) ∧ PI w' base b mv' (M.cnt1 s x) ∧ Fr w (fpp b mv) w' (fpp b mv')
section
variable {w : World} {base b : Nat} {mv : Option Nat} {s : M.S}
set_option maxRecDepth 100000 in
set_option maxHeartbeats 2000000 in
theorem count_any (h : PI w base b mv s) (ok : M.Ok s) (hcn : s.c < 1000000) (x : V) : Calls Try.prog 93 #[.pointer (some ⟨b, 0, none⟩), vV x] w (CtOut w base b mv s x) := by
  obtain ⟨W1, HW1⟩ : ∃ W1, Hid (w.alloc (.cells #[.int .i64 x.s, .int .i64 x.b.i, .int .i64 x.b.t, .string x.v] 84) = W1) := ⟨_, Hid_of rfl⟩
  have hb1 : Below w.heap.size w W1 := by rw [← HW1.out]; exact bel1 w _
  have hr1 : W1.heap[w.heap.size]? = some (.cells #[.int .i64 x.s, .int .i64 x.b.i, .int .i64 x.b.t, .string x.v] 84 (0, 0)) := by rw [← HW1.out]; exact heap_alloc_last w _
  have h1 := h.keep hb1
  have hlt := h.lt
  have HS : Hid (∀ w', Below W1.heap.size W1 w' → (w'.cell? ⟨w.heap.size, 0, none⟩ = some (.int .i64 x.s) ∧ w'.cell? ⟨w.heap.size, 1, none⟩ = some (.int .i64 x.b.i) ∧ w'.cell? ⟨w.heap.size, 2, none⟩ = some (.int .i64 x.b.t) ∧ w'.cell? ⟨w.heap.size, 3, none⟩ = some (.string x.v)) ∧ w'.cell? ⟨b, 5, none⟩ = some (.int .i64 s.ask)) := fun w' hw' => by
    obtain ⟨⟨c0, c1, c2, c3, c4, c5, c6, c7, c8, c9, c10, c11, c12, c13, c14, c15⟩, -⟩ := row16 (h1.keep hw').row
    exact ⟨(row4 (bel_row hr1 hw')).1, c5⟩
  have HNO : Hid (M.may s.ask x = false → ∀ w', Below W1.heap.size W1 w' → CtOut w base b mv s x (.returned (.tuple #[])) w') := fun e w' hw' => ⟨mv, rfl, by unfold M.cnt1; rw [e]; exact h1.keep hw', Fr.ofBelow (bel_up hb1 hw' (Nat.le_refl _))⟩
  have HP1 := Hid_of h1
  have HB1 := Hid_of hb1
  have HR1 := Hid_of hr1
  have hs1 : w.heap.size < W1.heap.size := (Array.getElem?_eq_some_iff.1 hr1).1
  have cs := isSlot_any x.s
  have cv := valid_any x.b
  clear h h1 hb1 hr1
  by_cases h0 : x.s < s.ask
  · have d0 : decide (x.s < s.ask) = true := decide_eq_true h0
    have HQ := Hid_of (HNO.out (by unfold M.may; rw [decide_eq_false (by omega)]; rfl))
    clear HNO h0
    go_enter Try.func93, Try.ntmps93
    go_upto_region 1 with fail
    rw [HW1.out]
    clear HW1
    refine wp_region_held_drew (S := fun wq => Below (W1).heap.size (W1) wq) (by kernel_rfl) (Below.drew (Below.refl _ _)) (fun hHeld => ?_)
    obtain ⟨wda, hwda⟩ : ∃ wd, W1.drew = wd := ⟨_, rfl⟩
    have hBwd : Below W1.heap.size W1 wda := by rw [← hwda]; exact Below.drew (Below.refl _ _)
    rw [hwda] at hHeld ⊢
    clear hwda
    refine Tm 0 ?p0a ?v0a hHeld ?r0a
    simp only [Act.put, Pa, Pb, Pc]
    refine Tk 1 ?p1a ?v1a ?y1a hHeld ?r1a
    case y1a => intro wq hq; obtain ⟨⟨a0, a1, a2, a3⟩, a5⟩ := HS.out wq hq; go_simp; try with_reducible rfl
    simp only [Act.put, Pa, Pb, Pc]
    refine Tm 2 ?p2a ?v2a hHeld ?r2a
    simp only [Act.put, Pa, Pb, Pc]
    refine Tm 3 ?p3a ?v3a hHeld ?r3a
    simp only [Act.put, Pa, Pb, Pc]
    refine Tm 4 ?p4a ?v4a hHeld ?r4a
    simp only [Act.put, Pa, Pb, Pc]
    refine Tk 5 ?p5a ?v5a ?y5a hHeld ?r5a
    case y5a => intro wq hq; obtain ⟨⟨a0, a1, a2, a3⟩, a5⟩ := HS.out wq hq; go_simp; try with_reducible rfl
    simp only [Act.put, Pa, Pb, Pc]
    refine Tm 6 ?p6a ?v6a hHeld ?r6a
    simp only [Act.put, Pa, Pb, Pc]
    refine Tm 7 ?p7a ?v7a hHeld ?r7a
    simp only [Act.put, Pa, Pb, Pc]
    refine Ts 8 ?p8a hHeld ?r8a
    simp only [Act.put, Pa, Pb, Pc]
    refine Ts 9 ?p9a hHeld ?r9a
    simp only [Act.put, Pa, Pb, Pc]
    refine Ts 10 ?p10a hHeld ?r10a
    simp only [Act.put, Pa, Pb, Pc]
    refine Ts 11 ?p11a hHeld ?r11a
    simp only [Act.put, Pa, Pb, Pc]
    refine Tm 12 ?p12a ?v12a hHeld ?r12a
    simp only [Act.put, Pa, Pb, Pc]
    refine Tm 13 ?p13a ?v13a hHeld ?r13a
    simp only [Act.put, Pa, Pb, Pc]
    refine Ts 14 ?p14a hHeld ?r14a
    simp only [Act.put, Pa, Pb, Pc]
    refine Ts 15 ?p15a hHeld ?r15a
    simp only [Act.put, Pa, Pb, Pc]
    refine Ts 16 ?p16a hHeld ?r16a
    simp only [Act.put, Pa, Pb, Pc]
    refine Ts 17 ?p17a hHeld ?r17a
    simp only [Act.put, Pa, Pb, Pc]
    refine Tm 18 ?p18a ?v18a hHeld ?r18a
    simp only [Act.put, Pa, Pb, Pc]
    refine Tm 19 ?p19a ?v19a hHeld ?r19a
    simp only [Act.put, Pa, Pb, Pc]
    refine Ts 20 ?p20a hHeld ?r20a
    simp only [Act.put, Pa, Pb, Pc]
    refine Ts 21 ?p21a hHeld ?r21a
    simp only [Act.put, Pa, Pb, Pc]
    refine Ts 22 ?p22a hHeld ?r22a
    simp only [Act.put, Pa, Pb, Pc]
    refine Ts 23 ?p23a hHeld ?r23a
    simp only [Act.put, Pa, Pb, Pc]
    refine Tm 24 ?p24a ?v24a hHeld ?r24a
    simp only [Act.put, Pa, Pb, Pc]
    refine wpAnyH_done (by kernel_rfl) ?_ _
    go_wp2
    refine bodyPost_ret (results_none rfl _ _ _) rfl ?_
    exact HQ.out _ hHeld
  · have d0 : decide (x.s < s.ask) = false := decide_eq_false h0
    cases hsl : M.slot x.s with
    | false =>
      have HQ := Hid_of (HNO.out (by unfold M.may; rw [hsl, Bool.and_false]; rfl))
      rw [hsl] at cs
      clear HNO h0 hsl
      go_enter Try.func93, Try.ntmps93
      go_upto_region 1 with fail
      rw [HW1.out]
      clear HW1
      refine wp_region_held_drew (S := fun wq => Below (W1).heap.size (W1) wq) (by kernel_rfl) (Below.drew (Below.refl _ _)) (fun hHeld => ?_)
      obtain ⟨wdb, hwdb⟩ : ∃ wd, W1.drew = wd := ⟨_, rfl⟩
      have hBwd : Below W1.heap.size W1 wdb := by rw [← hwdb]; exact Below.drew (Below.refl _ _)
      rw [hwdb] at hHeld ⊢
      clear hwdb
      refine Tm 0 ?p0b ?v0b hHeld ?r0b
      simp only [Act.put, Pa, Pb, Pc]
      refine Tk 1 ?p1b ?v1b ?y1b hHeld ?r1b
      case y1b => intro wq hq; obtain ⟨⟨a0, a1, a2, a3⟩, a5⟩ := HS.out wq hq; go_simp; try with_reducible rfl
      simp only [Act.put, Pa, Pb, Pc]
      refine Tm 2 ?p2b ?v2b hHeld ?r2b
      simp only [Act.put, Pa, Pb, Pc]
      refine Tm 3 ?p3b ?v3b hHeld ?r3b
      simp only [Act.put, Pa, Pb, Pc]
      refine Tm 4 ?p4b ?v4b hHeld ?r4b
      simp only [Act.put, Pa, Pb, Pc]
      refine Tk 5 ?p5b ?v5b ?y5b hHeld ?r5b
      case y5b => intro wq hq; obtain ⟨⟨a0, a1, a2, a3⟩, a5⟩ := HS.out wq hq; go_simp; try with_reducible rfl
      simp only [Act.put, Pa, Pb, Pc]
      refine Tm 6 ?p6b ?v6b hHeld ?r6b
      simp only [Act.put, Pa, Pb, Pc]
      refine Tm 7 ?p7b ?v7b hHeld ?r7b
      simp only [Act.put, Pa, Pb, Pc]
      refine Tm 8 ?p8b ?v8b hHeld ?r8b
      simp only [Act.put, Pa, Pb, Pc]
      refine Tk 9 ?p9b ?v9b ?y9b hHeld ?r9b
      case y9b => intro wq hq; obtain ⟨⟨a0, a1, a2, a3⟩, a5⟩ := HS.out wq hq; go_simp; try with_reducible rfl
      simp only [Act.put, Pa, Pb, Pc]
      refine Rd 10 ?p10b ?s10b
      intro K hK
      go_simp
      refine (cs _).mono ?_
      rintro e w2 ⟨rfl, hq2⟩
      obtain rfl := hq2.symm
      clear hq2
      refine hK.out _ _ hHeld (fun hHeld => ?_)
      clear hK K
      refine Tm 11 ?p11b_10 ?v11b_10 hHeld ?r11b_10
      simp only [Act.put, Pa, Pb, Pc]
      refine Tm 12 ?p12b_10 ?v12b_10 hHeld ?r12b_10
      simp only [Act.put, Pa, Pb, Pc]
      refine Tm 13 ?p13b_10 ?v13b_10 hHeld ?r13b_10
      simp only [Act.put, Pa, Pb, Pc]
      refine Ts 14 ?p14b_10 hHeld ?r14b_10
      simp only [Act.put, Pa, Pb, Pc]
      refine Ts 15 ?p15b_10 hHeld ?r15b_10
      simp only [Act.put, Pa, Pb, Pc]
      refine Ts 16 ?p16b_10 hHeld ?r16b_10
      simp only [Act.put, Pa, Pb, Pc]
      refine Ts 17 ?p17b_10 hHeld ?r17b_10
      simp only [Act.put, Pa, Pb, Pc]
      refine Tm 18 ?p18b_10 ?v18b_10 hHeld ?r18b_10
      simp only [Act.put, Pa, Pb, Pc]
      refine Tm 19 ?p19b_10 ?v19b_10 hHeld ?r19b_10
      simp only [Act.put, Pa, Pb, Pc]
      refine Ts 20 ?p20b_10 hHeld ?r20b_10
      simp only [Act.put, Pa, Pb, Pc]
      refine Ts 21 ?p21b_10 hHeld ?r21b_10
      simp only [Act.put, Pa, Pb, Pc]
      refine Ts 22 ?p22b_10 hHeld ?r22b_10
      simp only [Act.put, Pa, Pb, Pc]
      refine Ts 23 ?p23b_10 hHeld ?r23b_10
      simp only [Act.put, Pa, Pb, Pc]
      refine Tm 24 ?p24b_10 ?v24b_10 hHeld ?r24b_10
      simp only [Act.put, Pa, Pb, Pc]
      refine wpAnyH_done (by kernel_rfl) ?_ _
      go_wp2
      refine bodyPost_ret (results_none rfl _ _ _) rfl ?_
      exact HQ.out _ hHeld
    | true =>
      rw [hsl] at cs
      cases hv : M.vld x.b with
      | false =>
        have HQ := Hid_of (HNO.out (by unfold M.may; rw [hsl, hv, Bool.and_false]; rfl))
        rw [hv] at cv
        clear HNO h0 hsl hv
        go_enter Try.func93, Try.ntmps93
        go_upto_region 1 with fail
        rw [HW1.out]
        clear HW1
        refine wp_region_held_drew (S := fun wq => Below (W1).heap.size (W1) wq) (by kernel_rfl) (Below.drew (Below.refl _ _)) (fun hHeld => ?_)
        obtain ⟨wdc, hwdc⟩ : ∃ wd, W1.drew = wd := ⟨_, rfl⟩
        have hBwd : Below W1.heap.size W1 wdc := by rw [← hwdc]; exact Below.drew (Below.refl _ _)
        rw [hwdc] at hHeld ⊢
        clear hwdc
        refine Tm 0 ?p0c ?v0c hHeld ?r0c
        simp only [Act.put, Pa, Pb, Pc]
        refine Tk 1 ?p1c ?v1c ?y1c hHeld ?r1c
        case y1c => intro wq hq; obtain ⟨⟨a0, a1, a2, a3⟩, a5⟩ := HS.out wq hq; go_simp; try with_reducible rfl
        simp only [Act.put, Pa, Pb, Pc]
        refine Tm 2 ?p2c ?v2c hHeld ?r2c
        simp only [Act.put, Pa, Pb, Pc]
        refine Tm 3 ?p3c ?v3c hHeld ?r3c
        simp only [Act.put, Pa, Pb, Pc]
        refine Tm 4 ?p4c ?v4c hHeld ?r4c
        simp only [Act.put, Pa, Pb, Pc]
        refine Tk 5 ?p5c ?v5c ?y5c hHeld ?r5c
        case y5c => intro wq hq; obtain ⟨⟨a0, a1, a2, a3⟩, a5⟩ := HS.out wq hq; go_simp; try with_reducible rfl
        simp only [Act.put, Pa, Pb, Pc]
        refine Tm 6 ?p6c ?v6c hHeld ?r6c
        simp only [Act.put, Pa, Pb, Pc]
        refine Tm 7 ?p7c ?v7c hHeld ?r7c
        simp only [Act.put, Pa, Pb, Pc]
        refine Tm 8 ?p8c ?v8c hHeld ?r8c
        simp only [Act.put, Pa, Pb, Pc]
        refine Tk 9 ?p9c ?v9c ?y9c hHeld ?r9c
        case y9c => intro wq hq; obtain ⟨⟨a0, a1, a2, a3⟩, a5⟩ := HS.out wq hq; go_simp; try with_reducible rfl
        simp only [Act.put, Pa, Pb, Pc]
        refine Rd 10 ?p10c ?s10c
        intro K hK
        go_simp
        refine (cs _).mono ?_
        rintro e w2 ⟨rfl, hq2⟩
        obtain rfl := hq2.symm
        clear hq2
        refine hK.out _ _ hHeld (fun hHeld => ?_)
        clear hK K
        refine Tm 11 ?p11c_10 ?v11c_10 hHeld ?r11c_10
        simp only [Act.put, Pa, Pb, Pc]
        refine Tm 12 ?p12c_10 ?v12c_10 hHeld ?r12c_10
        simp only [Act.put, Pa, Pb, Pc]
        refine Tm 13 ?p13c_10 ?v13c_10 hHeld ?r13c_10
        simp only [Act.put, Pa, Pb, Pc]
        refine Tm 14 ?p14c_10 ?v14c_10 hHeld ?r14c_10
        simp only [Act.put, Pa, Pb, Pc]
        refine Tk 15 ?p15c_10 ?v15c_10 ?y15c_10 hHeld ?r15c_10
        case y15c_10 => intro wq hq; obtain ⟨⟨a0, a1, a2, a3⟩, a5⟩ := HS.out wq hq; go_simp; try with_reducible rfl
        simp only [Act.put, Pa, Pb, Pc]
        refine Rd 16 ?p16c_10 ?s16c_10
        intro K hK
        go_simp
        refine (cv _).mono ?_
        rintro e w3 ⟨rfl, hb3⟩
        have B3 : Below W1.heap.size W1 w3 := hHeld.trans (hb3.mono hHeld.size)
        refine hK.out _ _ B3 (fun hHeld => ?_)
        clear hK K
        refine Tm 17 ?p17c_10_16 ?v17c_10_16 hHeld ?r17c_10_16
        simp only [Act.put, Pa, Pb, Pc]
        refine Tm 18 ?p18c_10_16 ?v18c_10_16 hHeld ?r18c_10_16
        simp only [Act.put, Pa, Pb, Pc]
        refine Tm 19 ?p19c_10_16 ?v19c_10_16 hHeld ?r19c_10_16
        simp only [Act.put, Pa, Pb, Pc]
        refine Ts 20 ?p20c_10_16 hHeld ?r20c_10_16
        simp only [Act.put, Pa, Pb, Pc]
        refine Ts 21 ?p21c_10_16 hHeld ?r21c_10_16
        simp only [Act.put, Pa, Pb, Pc]
        refine Ts 22 ?p22c_10_16 hHeld ?r22c_10_16
        simp only [Act.put, Pa, Pb, Pc]
        refine Ts 23 ?p23c_10_16 hHeld ?r23c_10_16
        simp only [Act.put, Pa, Pb, Pc]
        refine Tm 24 ?p24c_10_16 ?v24c_10_16 hHeld ?r24c_10_16
        simp only [Act.put, Pa, Pb, Pc]
        refine wpAnyH_done (by kernel_rfl) ?_ _
        go_wp2
        refine bodyPost_ret (results_none rfl _ _ _) rfl ?_
        exact HQ.out _ hHeld
      | true =>
        rw [hv] at cv
        by_cases h3 : 4096 < x.v.size
        · have d3 : decide ((4096 : Int) < (x.v.size : Int)) = true := decide_eq_true (by omega)
          have HQ := Hid_of (HNO.out (by unfold M.may; rw [decide_eq_false (show ¬ x.v.size ≤ 4096 by omega), Bool.and_false]))
          clear HNO h0 hsl hv h3
          go_enter Try.func93, Try.ntmps93
          go_upto_region 1 with fail
          rw [HW1.out]
          clear HW1
          refine wp_region_held_drew (S := fun wq => Below (W1).heap.size (W1) wq) (by kernel_rfl) (Below.drew (Below.refl _ _)) (fun hHeld => ?_)
          obtain ⟨wdd, hwdd⟩ : ∃ wd, W1.drew = wd := ⟨_, rfl⟩
          have hBwd : Below W1.heap.size W1 wdd := by rw [← hwdd]; exact Below.drew (Below.refl _ _)
          rw [hwdd] at hHeld ⊢
          clear hwdd
          refine Tm 0 ?p0d ?v0d hHeld ?r0d
          simp only [Act.put, Pa, Pb, Pc]
          refine Tk 1 ?p1d ?v1d ?y1d hHeld ?r1d
          case y1d => intro wq hq; obtain ⟨⟨a0, a1, a2, a3⟩, a5⟩ := HS.out wq hq; go_simp; try with_reducible rfl
          simp only [Act.put, Pa, Pb, Pc]
          refine Tm 2 ?p2d ?v2d hHeld ?r2d
          simp only [Act.put, Pa, Pb, Pc]
          refine Tm 3 ?p3d ?v3d hHeld ?r3d
          simp only [Act.put, Pa, Pb, Pc]
          refine Tm 4 ?p4d ?v4d hHeld ?r4d
          simp only [Act.put, Pa, Pb, Pc]
          refine Tk 5 ?p5d ?v5d ?y5d hHeld ?r5d
          case y5d => intro wq hq; obtain ⟨⟨a0, a1, a2, a3⟩, a5⟩ := HS.out wq hq; go_simp; try with_reducible rfl
          simp only [Act.put, Pa, Pb, Pc]
          refine Tm 6 ?p6d ?v6d hHeld ?r6d
          simp only [Act.put, Pa, Pb, Pc]
          refine Tm 7 ?p7d ?v7d hHeld ?r7d
          simp only [Act.put, Pa, Pb, Pc]
          refine Tm 8 ?p8d ?v8d hHeld ?r8d
          simp only [Act.put, Pa, Pb, Pc]
          refine Tk 9 ?p9d ?v9d ?y9d hHeld ?r9d
          case y9d => intro wq hq; obtain ⟨⟨a0, a1, a2, a3⟩, a5⟩ := HS.out wq hq; go_simp; try with_reducible rfl
          simp only [Act.put, Pa, Pb, Pc]
          refine Rd 10 ?p10d ?s10d
          intro K hK
          go_simp
          refine (cs _).mono ?_
          rintro e w2 ⟨rfl, hq2⟩
          obtain rfl := hq2.symm
          clear hq2
          refine hK.out _ _ hHeld (fun hHeld => ?_)
          clear hK K
          refine Tm 11 ?p11d_10 ?v11d_10 hHeld ?r11d_10
          simp only [Act.put, Pa, Pb, Pc]
          refine Tm 12 ?p12d_10 ?v12d_10 hHeld ?r12d_10
          simp only [Act.put, Pa, Pb, Pc]
          refine Tm 13 ?p13d_10 ?v13d_10 hHeld ?r13d_10
          simp only [Act.put, Pa, Pb, Pc]
          refine Tm 14 ?p14d_10 ?v14d_10 hHeld ?r14d_10
          simp only [Act.put, Pa, Pb, Pc]
          refine Tk 15 ?p15d_10 ?v15d_10 ?y15d_10 hHeld ?r15d_10
          case y15d_10 => intro wq hq; obtain ⟨⟨a0, a1, a2, a3⟩, a5⟩ := HS.out wq hq; go_simp; try with_reducible rfl
          simp only [Act.put, Pa, Pb, Pc]
          refine Rd 16 ?p16d_10 ?s16d_10
          intro K hK
          go_simp
          refine (cv _).mono ?_
          rintro e w3 ⟨rfl, hb3⟩
          have B3 : Below W1.heap.size W1 w3 := hHeld.trans (hb3.mono hHeld.size)
          refine hK.out _ _ B3 (fun hHeld => ?_)
          clear hK K
          refine Tm 17 ?p17d_10_16 ?v17d_10_16 hHeld ?r17d_10_16
          simp only [Act.put, Pa, Pb, Pc]
          refine Tm 18 ?p18d_10_16 ?v18d_10_16 hHeld ?r18d_10_16
          simp only [Act.put, Pa, Pb, Pc]
          refine Tm 19 ?p19d_10_16 ?v19d_10_16 hHeld ?r19d_10_16
          simp only [Act.put, Pa, Pb, Pc]
          refine Tm 20 ?p20d_10_16 ?v20d_10_16 hHeld ?r20d_10_16
          simp only [Act.put, Pa, Pb, Pc]
          refine Tk 21 ?p21d_10_16 ?v21d_10_16 ?y21d_10_16 hHeld ?r21d_10_16
          case y21d_10_16 => intro wq hq; obtain ⟨⟨a0, a1, a2, a3⟩, a5⟩ := HS.out wq hq; go_simp; try with_reducible rfl
          simp only [Act.put, Pa, Pb, Pc]
          refine Tm 22 ?p22d_10_16 ?v22d_10_16 hHeld ?r22d_10_16
          simp only [Act.put, Pa, Pb, Pc]
          refine Tm 23 ?p23d_10_16 ?v23d_10_16 hHeld ?r23d_10_16
          simp only [Act.put, Pa, Pb, Pc]
          refine Tm 24 ?p24d_10_16 ?v24d_10_16 hHeld ?r24d_10_16
          simp only [Act.put, Pa, Pb, Pc]
          refine wpAnyH_done (by kernel_rfl) ?_ _
          go_wp2
          refine bodyPost_ret (results_none rfl _ _ _) rfl ?_
          exact HQ.out _ hHeld
        · have d3 : decide ((4096 : Int) < (x.v.size : Int)) = false := decide_eq_false (by omega)
          have hmay : M.may s.ask x = true := by unfold M.may; rw [hsl, hv, decide_eq_true (show s.ask ≤ x.s by omega), decide_eq_true (show x.v.size ≤ 4096 by omega)]; rfl
          obtain ⟨k0, k1⟩ := M.slot_iff hsl
          have hwf := wf_small k0 k1
          have hadd : IntKind.i64.wrap (x.s + 1) = x.s + 1 := by rw [IntKind.wrap_i64]; omega
          have hxs : x.v.size ≤ 4096 := by omega
          obtain ⟨q, HMX⟩ : ∃ q, Hid (max s.fin (x.s + 1) = q) := ⟨_, Hid_of rfl⟩
          have HYES : Hid (∀ m p q w', M.pick2 (s.f x.s) x = p → max s.fin (x.s + 1) = q → PI w' base b (some m) { s with f := fup s.f x.s (some p), c := s.c + 1, fin := q, nx := q } → Fr w (fpp b mv) w' (fpp b (some m)) → CtOut w base b mv s x (.returned (.tuple #[])) w') := fun m p q w' e1 e2 hp hf => ⟨some m, rfl, by unfold M.cnt1; rw [hmay, e1, e2]; exact hp, hf⟩
          clear HNO h0 hsl hv h3 hmay k0 k1
          by_cases hmn : mv = none
          · have hfn : Hid (s.f x.s = none) := HP1.out.map.no hmn x.s
            have HMN := Hid_of hmn
            clear hmn
            go_enter Try.func93, Try.ntmps93
            go_upto_region 1 with fail
            rw [HW1.out]
            clear HW1
            refine wp_region_held_drew (S := fun wq => Below (W1).heap.size (W1) wq) (by kernel_rfl) (Below.drew (Below.refl _ _)) (fun hHeld => ?_)
            obtain ⟨wde, hwde⟩ : ∃ wd, W1.drew = wd := ⟨_, rfl⟩
            have hBwd : Below W1.heap.size W1 wde := by rw [← hwde]; exact Below.drew (Below.refl _ _)
            rw [hwde] at hHeld ⊢
            clear hwde
            refine Tm 0 ?p0e ?v0e hHeld ?r0e
            simp only [Act.put, Pa, Pb, Pc]
            refine Tk 1 ?p1e ?v1e ?y1e hHeld ?r1e
            case y1e => intro wq hq; obtain ⟨⟨a0, a1, a2, a3⟩, a5⟩ := HS.out wq hq; go_simp; try with_reducible rfl
            simp only [Act.put, Pa, Pb, Pc]
            refine Tm 2 ?p2e ?v2e hHeld ?r2e
            simp only [Act.put, Pa, Pb, Pc]
            refine Tm 3 ?p3e ?v3e hHeld ?r3e
            simp only [Act.put, Pa, Pb, Pc]
            refine Tm 4 ?p4e ?v4e hHeld ?r4e
            simp only [Act.put, Pa, Pb, Pc]
            refine Tk 5 ?p5e ?v5e ?y5e hHeld ?r5e
            case y5e => intro wq hq; obtain ⟨⟨a0, a1, a2, a3⟩, a5⟩ := HS.out wq hq; go_simp; try with_reducible rfl
            simp only [Act.put, Pa, Pb, Pc]
            refine Tm 6 ?p6e ?v6e hHeld ?r6e
            simp only [Act.put, Pa, Pb, Pc]
            refine Tm 7 ?p7e ?v7e hHeld ?r7e
            simp only [Act.put, Pa, Pb, Pc]
            refine Tm 8 ?p8e ?v8e hHeld ?r8e
            simp only [Act.put, Pa, Pb, Pc]
            refine Tk 9 ?p9e ?v9e ?y9e hHeld ?r9e
            case y9e => intro wq hq; obtain ⟨⟨a0, a1, a2, a3⟩, a5⟩ := HS.out wq hq; go_simp; try with_reducible rfl
            simp only [Act.put, Pa, Pb, Pc]
            refine Rd 10 ?p10e ?s10e
            intro K hK
            go_simp
            refine (cs _).mono ?_
            rintro e w2 ⟨rfl, hq2⟩
            obtain rfl := hq2.symm
            clear hq2
            refine hK.out _ _ hHeld (fun hHeld => ?_)
            clear hK K
            refine Tm 11 ?p11e_10 ?v11e_10 hHeld ?r11e_10
            simp only [Act.put, Pa, Pb, Pc]
            refine Tm 12 ?p12e_10 ?v12e_10 hHeld ?r12e_10
            simp only [Act.put, Pa, Pb, Pc]
            refine Tm 13 ?p13e_10 ?v13e_10 hHeld ?r13e_10
            simp only [Act.put, Pa, Pb, Pc]
            refine Tm 14 ?p14e_10 ?v14e_10 hHeld ?r14e_10
            simp only [Act.put, Pa, Pb, Pc]
            refine Tk 15 ?p15e_10 ?v15e_10 ?y15e_10 hHeld ?r15e_10
            case y15e_10 => intro wq hq; obtain ⟨⟨a0, a1, a2, a3⟩, a5⟩ := HS.out wq hq; go_simp; try with_reducible rfl
            simp only [Act.put, Pa, Pb, Pc]
            refine Rd 16 ?p16e_10 ?s16e_10
            intro K hK
            go_simp
            refine (cv _).mono ?_
            rintro e w3 ⟨rfl, hb3⟩
            have B3 : Below W1.heap.size W1 w3 := hHeld.trans (hb3.mono hHeld.size)
            refine hK.out _ _ B3 (fun hHeld => ?_)
            clear hK K
            refine Tm 17 ?p17e_10_16 ?v17e_10_16 hHeld ?r17e_10_16
            simp only [Act.put, Pa, Pb, Pc]
            refine Tm 18 ?p18e_10_16 ?v18e_10_16 hHeld ?r18e_10_16
            simp only [Act.put, Pa, Pb, Pc]
            refine Tm 19 ?p19e_10_16 ?v19e_10_16 hHeld ?r19e_10_16
            simp only [Act.put, Pa, Pb, Pc]
            refine Tm 20 ?p20e_10_16 ?v20e_10_16 hHeld ?r20e_10_16
            simp only [Act.put, Pa, Pb, Pc]
            refine Tk 21 ?p21e_10_16 ?v21e_10_16 ?y21e_10_16 hHeld ?r21e_10_16
            case y21e_10_16 => intro wq hq; obtain ⟨⟨a0, a1, a2, a3⟩, a5⟩ := HS.out wq hq; go_simp; try with_reducible rfl
            simp only [Act.put, Pa, Pb, Pc]
            refine Tm 22 ?p22e_10_16 ?v22e_10_16 hHeld ?r22e_10_16
            simp only [Act.put, Pa, Pb, Pc]
            refine Tm 23 ?p23e_10_16 ?v23e_10_16 hHeld ?r23e_10_16
            simp only [Act.put, Pa, Pb, Pc]
            refine Tm 24 ?p24e_10_16 ?v24e_10_16 hHeld ?r24e_10_16
            simp only [Act.put, Pa, Pb, Pc]
            refine wpAnyH_done (by kernel_rfl) ?_ _
            obtain ⟨W4, HW4⟩ : ∃ W4, Hid (w3.alloc (.cells #[.int .i64 x.s, .int .i64 x.b.i, .int .i64 x.b.t, .string x.v] 84) = W4) := ⟨_, Hid_of rfl⟩
            have hb4 : Below w3.heap.size w3 W4 := by rw [← HW4.out]; exact bel1 w3 _
            have hr4 : W4.heap[w3.heap.size]? = some (.cells #[.int .i64 x.s, .int .i64 x.b.i, .int .i64 x.b.t, .string x.v] 84 (0, 0)) := by rw [← HW4.out]; exact heap_alloc_last w3 _
            have hs13 := hHeld.size
            have h4 := HP1.out.keep (bel_up hHeld hb4 (Nat.le_refl _))
            have q4 := bel_row HR1.out (bel_up hHeld hb4 (Nat.le_refl _))
            have HF4 := Hid_of (bel_up (bel_up HB1.out hHeld (Nat.le_refl _)) hb4 (Nat.le_refl _))
            have HP4 := Hid_of h4
            have HR4 := Hid_of q4
            have HL4 : Hid (W4.heap[w3.heap.size]? = some (.cells (vl.cells [x]).toArray 84 (0, 0))) := hr4
            obtain ⟨u0, HU0⟩ : ∃ u0, Hid ((s.f x.s).getD zo = u0) := ⟨_, Hid_of rfl⟩
            obtain ⟨fd, HFD⟩ : ∃ fd, Hid ((s.f x.s).isSome = fd) := ⟨_, Hid_of rfl⟩
            have HS3 : Hid (∀ wq, Below W4.heap.size W4 wq → wq.cell? ⟨b, 13, none⟩ = some (.map mv) ∧ wq.cell? ⟨w.heap.size, 0, none⟩ = some (.int .i64 x.s) ∧ (Instr.lookup 95 (.map mv) (.int .i64 x.s) true).run Try.prog wq = .ok (.tuple #[vV u0, .bool fd]) wq) := fun wq hq => by
              have hk := HP4.out.keep hq
              have hl := hk.map.lookOk x.s hwf
              rw [HU0.out, HFD.out] at hl
              exact ⟨(row16 hk.row).1.2.2.2.2.2.2.2.2.2.2.2.2.2.1, (row4 (bel_row HR4.out hq)).1.1, hl⟩
            obtain ⟨⟨e0, e1, e2, e3⟩, -⟩ := row4 (bel_row HR1.out hHeld)
            clear h4 q4 hb4 hr4 hHeld
            go_upto_region 3 with fail
            rw [HW4.out]
            clear HW4
            refine wp_region_held_drew (S := fun wq => Below (W4).heap.size (W4) wq) (by kernel_rfl) (Below.drew (Below.refl _ _)) (fun hHeld => ?_)
            obtain ⟨wdf, hwdf⟩ : ∃ wd, W4.drew = wd := ⟨_, rfl⟩
            have hBwd : Below W4.heap.size W4 wdf := by rw [← hwdf]; exact Below.drew (Below.refl _ _)
            rw [hwdf] at hHeld ⊢
            clear hwdf
            refine Tm 0 ?p0f ?v0f hHeld ?r0f
            refine Tm 1 ?p1f ?v1f hHeld ?r1f
            refine Tm 2 ?p2f ?v2f hHeld ?r2f
            refine Tk 3 ?p3f ?v3f ?y3f hHeld ?r3f
            case y3f => intro wq hq; obtain ⟨a0, a1, a2⟩ := HS3.out wq hq; go_simp; try with_reducible rfl
            refine Tm 4 ?p4f ?v4f hHeld ?r4f
            refine Tk 5 ?p5f ?v5f ?y5f hHeld ?r5f
            case y5f => intro wq hq; obtain ⟨a0, a1, a2⟩ := HS3.out wq hq; go_simp; try with_reducible rfl
            refine Tk 6 ?p6f ?v6f ?y6f hHeld ?r6f
            case y6f => intro wq hq; obtain ⟨a0, a1, a2⟩ := HS3.out wq hq; go_simp; try with_reducible rfl
            refine Tm 7 ?p7f ?v7f hHeld ?r7f
            refine Tm 8 ?p8f ?v8f hHeld ?r8f
            refine Tm 9 ?p9f ?v9f hHeld ?r9f
            simp only [Act.put, Pa, Pb, Pc]
            refine Rd 10 ?p10f ?s10f
            intro K hK
            go_simp
            obtain ⟨wa, hwa⟩ : ∃ wa, wdf.alloc (.cells #[.int .i64 0, .int .i64 0, .int .i64 0, .string ⟨#[]⟩] 84) = wa := ⟨_, rfl⟩
            rw [hwa]
            have hba : Below wdf.heap.size wdf wa := by rw [← hwa]; exact bel1 _ _
            have hz : wa.heap[wdf.heap.size]? = some (.cells #[.int .i64 0, .int .i64 0, .int .i64 0, .string ⟨#[]⟩] 84 (0, 0)) := by rw [← hwa]; exact heap_alloc_last _ _
            obtain ⟨gz, hgz⟩ : ∃ gz, wdf.heap.size = gz := ⟨_, rfl⟩
            rw [hgz] at hz ⊢
            have hzW : W4.heap.size ≤ gz := by rw [← hgz]; exact hHeld.size
            clear hwa hgz
            have Ba := hHeld.trans (hba.mono hHeld.size)
            obtain ⟨⟨k0, k1, k2, k3⟩, kf⟩ := row4 hz
            have kf0 := kf 0
            have kf1 := kf 1
            have kf2 := kf 2
            have kf3 := kf 3
            refine hK.out _ _ Ba (fun hHeld => ?_)
            clear hK K
            refine Rd 11 ?p11f_10 ?s11f_10
            intro K hK
            go_simp
            obtain ⟨ws, hws⟩ : ∃ ws, put4 wa gz (.int .i64 u0.s) (.int .i64 u0.b.i) (.int .i64 u0.b.t) (.string u0.v) = ws := ⟨_, rfl⟩
            have hz2 := put4_row hz (.int .i64 u0.s) (.int .i64 u0.b.i) (.int .i64 u0.b.t) (.string u0.v)
            have hBs := put4_bel hHeld hzW (.int .i64 u0.s) (.int .i64 u0.b.i) (.int .i64 u0.b.t) (.string u0.v)
            rw [hws] at hz2 hBs
            unfold put4 at hws
            rw [hws]
            clear hws
            refine hK.out _ _ hBs (fun hHeld => ?_)
            clear hK K
            refine Tm 12 ?p12f_10_11 ?v12f_10_11 hHeld ?r12f_10_11
            simp only [Act.put, Pa, Pb, Pc]
            refine wpAnyH_done (by kernel_rfl) ?_ _
            have hnn : s.f x.s = none := hfn.out
            have HPK : Hid (M.pick2 (s.f x.s) x = x) := Hid_of (by rw [hnn]; rfl)
            obtain rfl : fd = false := by rw [← HFD.out, hnn]; rfl
            have HLs := Hid_of (bel_row HL4.out hHeld)
            have cp : ∀ W, AtL vl W (some ⟨w3.heap.size, 0, none⟩) [x] → Calls Try.prog 99 #[.slice (some ⟨w3.heap.size, 0, none⟩) 1 1] W fun e w' => e = .returned (.tuple #[vV x, .bool true]) ∧ Below W.heap.size W w' := fun W hat => pick_any (some ⟨w3.heap.size, 0, none⟩) 1 [x] W hat (by simp) (fun v hv => by
              simp only [List.mem_cons, List.not_mem_nil, or_false] at hv
              subst hv
              omega)
            obtain ⟨p, hp⟩ : ∃ p, p = x := ⟨_, rfl⟩
            have cp : ∀ W, AtL vl W (some ⟨w3.heap.size, 0, none⟩) [x] → Calls Try.prog 99 #[.slice (some ⟨w3.heap.size, 0, none⟩) 1 1] W fun e w' => e = .returned (.tuple #[vV p, .bool true]) ∧ Below W.heap.size W w' := by rw [hp]; exact cp
            have HPK : Hid (M.pick2 (s.f x.s) x = p) := Hid_of (by rw [hp]; exact HPK.out)
            clear hp
            obtain rfl : mv = none := HMN.out
            have h5 := HP4.out.keep hHeld
            have q5 := bel_row HR4.out hHeld
            have hbq := bel_up hHeld (bel1 ws (.map #[] 0)) (Nat.le_refl _)
            have h6 := HP4.out.keep hbq
            have hmi : MI ((ws.alloc (.map #[] 0)).setCell ⟨b, 13, none⟩ (.map (some ws.heap.size))) ws.heap.size 0 (fun _ => none) := (MI.made ws).keep (heap_setCell_other _ ⟨b, 13, none⟩ _ _ (by
              have h1 := h5.lt
              show ws.heap.size ≠ b
              omega))
            have hsf : s.f = fun _ => none := funext fun k => HP4.out.map.no rfl k
            have h7 : PI ((ws.alloc (.map #[] 0)).setCell ⟨b, 13, none⟩ (.map (some ws.heap.size))) base b (some ws.heap.size) s := h6.remap rfl ⟨(fun e => by cases e), fun m hm => by
              cases hm
              refine ⟨?_, ?_⟩
              · rw [hsf]
                exact hmi.mono (Nat.zero_le _)
              · have h1 := h5.lt
                have h2 := h5.lo
                omega⟩
            have hf7 : Fr w (fpp b none) ((ws.alloc (.map #[] 0)).setCell ⟨b, 13, none⟩ (.map (some ws.heap.size))) (fpp b (some ws.heap.size)) := by
              have hfb := fr_set (Fr.ofBelow (F := fpp b none) (bel_up HF4.out hbq (Nat.le_refl _))) (.inl rfl) 13 (.map (some ws.heap.size))
              exact ⟨hfb.os, hfb.tape, hfb.output, hfb.size, hfb.block, fun k hk => by
                rcases hk with rfl | hk
                · exact .inl (.inl rfl)
                · cases hk
                  exact .inr (Nat.le_trans HF4.out.size hHeld.size)⟩
            have hne3 : w.heap.size ≠ b := by omega
            have q7 := (heap_setCell_other (ws.alloc (.map #[] 0)) ⟨b, 13, none⟩ w.heap.size (.map (some ws.heap.size)) hne3).trans (bel_row HR4.out hbq)
            have hl7 := (heap_setCell_other (ws.alloc (.map #[] 0)) ⟨b, 13, none⟩ w3.heap.size (.map (some ws.heap.size)) (by
              have h1 := HP1.out.lt
              have h2 := hs13
              show w3.heap.size ≠ b
              omega)).trans (bel_row HLs.out (bel1 ws (.map #[] 0)))
            obtain ⟨⟨c0, c1, c2, c3, c4, c5, c6, c7, c8, c9, c10, c11, c12, c13, c14, c15⟩, cf⟩ := row16 h5.row
            obtain ⟨⟨o0, o1, o2, o3, o4, o5, o6, o7, o8, o9, o10, o11, o12, o13, o14, o15⟩, of⟩ := row16 h6.row
            have of13 := of 13
            have HPt := Hid_of h7
            have HRt := Hid_of q7
            have HFt := Hid_of hf7
            have HAt : Hid (AtL vl ((ws.alloc (.map #[] 0)).setCell ⟨b, 13, none⟩ (.map (some ws.heap.size))) (some ⟨w3.heap.size, 0, none⟩) [x]) := at_votes (l := [x]) hl7
            obtain ⟨wt, HWt⟩ : ∃ wt, Hid ((ws.alloc (.map #[] 0)).setCell ⟨b, 13, none⟩ (.map (some ws.heap.size)) = wt) := ⟨_, Hid_of rfl⟩
            rw [HWt.out] at HPt HRt HFt HAt
            have em := eq95_none
            have hmm := @run_makeMap Try.prog
            clear hnn h5 h6 h7 hf7 q5 q7 hl7 hbq hHeld HS3 HL4 HLs hBs kf kf0 kf1 kf2 kf3 k0 k1 k2 k3 Ba hz hzW hz2 HU0 HFD hmi hsf cf of c0 c1 c2 c3 c4 c5 c6 c7 c8 c9 c10 c11 c12 c14 c15 o0 o1 o2 o3 o4 o5 o6 o7 o8 o9 o10 o11 o12 o14 o15
            go_upto_region 8 with fail
            rw [HWt.out]
            clear HWt em hmm
            obtain ⟨m, hm⟩ : ∃ m, ws.heap.size = m := ⟨_, rfl⟩
            rw [hm] at HPt HFt
            clear hm
            have t13 := (row16 HPt.out.row).1.2.2.2.2.2.2.2.2.2.2.2.2.2.1
            have t0 := (row4 HRt.out).1.1
            have HS8 : Hid (∀ wq, (fun wq : World => wq.cell? ⟨b, 13, none⟩ = some (.map (some m)) ∧ wq.cell? ⟨w.heap.size, 0, none⟩ = some (.int .i64 x.s)) wq → wq.cell? ⟨b, 13, none⟩ = some (.map (some m)) ∧ wq.cell? ⟨w.heap.size, 0, none⟩ = some (.int .i64 x.s)) := fun wq h => h
            have HS9 : Hid (∀ wq, (fun wq : World => wq.cell? ⟨w.heap.size, 0, none⟩ = some (.int .i64 x.s)) wq → wq.cell? ⟨w.heap.size, 0, none⟩ = some (.int .i64 x.s)) := fun wq h => h
            refine wp_region_held_drew (S := fun wq : World => wq.cell? ⟨b, 13, none⟩ = some (.map (some m)) ∧ wq.cell? ⟨w.heap.size, 0, none⟩ = some (.int .i64 x.s)) (by kernel_rfl) ⟨t13, t0⟩ (fun hHeld => ?_)
            obtain ⟨wdft, hwdft⟩ : ∃ wd, wt.drew = wd := ⟨_, rfl⟩
            have hBwd : Below wt.heap.size wt wdft := by rw [← hwdft]; exact Below.drew (Below.refl _ _)
            rw [hwdft] at hHeld ⊢
            clear hwdft
            refine Tm 0 ?p0ft ?v0ft hHeld ?r0ft
            refine Tm 1 ?p1ft ?v1ft hHeld ?r1ft
            refine Tm 2 ?p2ft ?v2ft hHeld ?r2ft
            refine Tk 3 ?p3ft ?v3ft ?y3ft hHeld ?r3ft
            case y3ft => intro wq hq; obtain ⟨a0, a1⟩ := HS8.out wq hq; go_simp; try with_reducible rfl
            refine Tm 4 ?p4ft ?v4ft hHeld ?r4ft
            refine Tk 5 ?p5ft ?v5ft ?y5ft hHeld ?r5ft
            case y5ft => intro wq hq; obtain ⟨a0, a1⟩ := HS8.out wq hq; go_simp; try with_reducible rfl
            refine Tm 6 ?p6ft ?v6ft hHeld ?r6ft
            simp only [Act.put, Pa, Pb, Pc]
            refine Rd 7 ?p7ft ?s7ft
            intro K hK
            go_simp
            refine (cp _ (HAt.out.keep hBwd)).mono ?_
            rintro e v7 ⟨rfl, hb7⟩
            have hbt := bel_up hBwd hb7 (Nat.le_refl _)
            have h7 := HPt.out.keep hbt
            obtain ⟨w8, hrun, hm8, ht8⟩ := (h7.map.yes m rfl).1.put x.s hwf p (by unfold maxLen; omega)
            have hr7 := bel_row HRt.out hbt
            have B7 : v7.cell? ⟨b, 13, none⟩ = some (.map (some m)) ∧ v7.cell? ⟨w.heap.size, 0, none⟩ = some (.int .i64 x.s) := ⟨(row16 h7.row).1.2.2.2.2.2.2.2.2.2.2.2.2.2.1, (row4 hr7).1.1⟩
            have hr8 := (ht8.block w.heap.size ((h7.map.yes m rfl).1.ne hr7)).trans hr7
            have h8 : PI w8 base b (some m) { s with f := fup s.f x.s (some p), c := s.c + 1 } := ⟨(ht8.block b ((h7.map.yes m rfl).1.ne h7.row)).trans h7.row, ⟨(fun e => by cases e), fun m' hm' => by cases hm'; exact ⟨hm8, (h7.map.yes m rfl).2⟩⟩, h7.lo⟩
            have hf8 : Fr w (fpp b none) w8 (fpp b (some m)) := (HFt.out.up hbt).trans ⟨ht8.os, ht8.tape, ht8.output, Nat.le_of_eq ht8.size.symm, (fun k _ hk => ht8.block k (fun e => hk (.inr (by rw [e])))), fun k hk => .inl hk⟩
            clear hb7 hbt h7 hr7 hm8 ht8
            refine hK.out _ _ B7 (fun hHeld => ?_)
            clear hK K
            refine Tm 8 ?p8ft_7 ?v8ft_7 hHeld ?r8ft_7
            refine Tm 9 ?p9ft_7 ?v9ft_7 hHeld ?r9ft_7
            refine Tm 10 ?p10ft_7 ?v10ft_7 hHeld ?r10ft_7
            simp only [Act.put, Pa, Pb, Pc]
            refine Rd 11 ?p11ft_7 ?s11ft_7
            intro K hK
            go_simp
            refine hK.out _ _ ⟨(row16 h8.row).1.2.2.2.2.2.2.2.2.2.2.2.2.2.1, (row4 hr8).1.1⟩ (fun hHeld => ?_)
            clear hK K
            refine wpAnyH_done (by kernel_rfl) ?_ _
            go_upto_region 9 with fail
            refine wp_region_held_drew (S := fun wq : World => wq.cell? ⟨w.heap.size, 0, none⟩ = some (.int .i64 x.s)) (by kernel_rfl) ((row4 hr8).1.1) (fun hHeld => ?_)
            obtain ⟨wdftr, hwdftr⟩ : ∃ wd, w8.drew = wd := ⟨_, rfl⟩
            have hBwd : Below w8.heap.size w8 wdftr := by rw [← hwdftr]; exact Below.drew (Below.refl _ _)
            rw [hwdftr] at hHeld ⊢
            clear hwdftr
            have h8d := h8.keep hBwd
            obtain ⟨⟨c0, c1, c2, c3, c4, c5, c6, c7, c8, c9, c10, c11, c12, c13, c14, c15⟩, cf⟩ := row16 h8d.row
            have f14 := cf 14
            clear c0 c1 c2 c3 c4 c5 c6 c7 c8 c9 c10 c11 c12 c13 c15 cf
            refine Tm 0 ?p0ftr ?v0ftr hHeld ?r0ftr
            refine Tm 1 ?p1ftr ?v1ftr hHeld ?r1ftr
            refine Tm 2 ?p2ftr ?v2ftr hHeld ?r2ftr
            refine Tm 3 ?p3ftr ?v3ftr hHeld ?r3ftr
            refine Tm 5 ?p5ftr ?v5ftr hHeld ?r5ftr
            refine Tk 6 ?p6ftr ?v6ftr ?y6ftr hHeld ?r6ftr
            case y6ftr => intro wq hq; obtain a0 := HS9.out wq hq; go_simp; try with_reducible rfl
            refine Tm 7 ?p7ftr ?v7ftr hHeld ?r7ftr
            simp only [Act.put, Pa, Pb, Pc]
            refine Rd 4 ?p4ftr ?s4ftr
            intro K hK
            go_simp
            refine hK.out _ _ hHeld (fun hHeld => ?_)
            clear hK K
            refine Tm 8 ?p8ftr_4 ?v8ftr_4 hHeld ?r8ftr_4
            refine Tm 9 ?p9ftr_4 ?v9ftr_4 hHeld ?r9ftr_4
            refine Tm 10 ?p10ftr_4 ?v10ftr_4 hHeld ?r10ftr_4
            simp only [Act.put, Pa, Pb, Pc]
            refine Rd 11 ?p11ftr_4 ?s11ftr_4
            intro K hK
            go_simp
            rw [HMX.out]
            have hne2 : w.heap.size ≠ b := by omega
            have B9 : (wdftr.setCell ⟨b, 14, none⟩ (.int .i64 q)).cell? ⟨w.heap.size, 0, none⟩ = some (.int .i64 x.s) := (row4 ((heap_setCell_other wdftr ⟨b, 14, none⟩ _ _ hne2).trans (bel_row hr8 hBwd))).1.1
            refine hK.out _ _ B9 (fun hHeld => ?_)
            clear hK K
            refine wpAnyH_done (by kernel_rfl) ?_ _
            have h9 : PI (wdftr.setCell ⟨b, 14, none⟩ (.int .i64 q)) base b (some m) { s with f := fup s.f x.s (some p), c := s.c + 1, fin := q } := h8d.cell 14 _ rfl rfl rfl
            have hf9 : Fr w (fpp b none) (wdftr.setCell ⟨b, 14, none⟩ (.int .i64 q)) (fpp b (some m)) := (hf8.up hBwd).trans (fr_cell 14 _)
            obtain ⟨W9, HW9⟩ : ∃ W9, Hid (wdftr.setCell ⟨b, 14, none⟩ (.int .i64 q) = W9) := ⟨_, Hid_of rfl⟩
            rw [HW9.out] at h9 hf9 ⊢
            obtain ⟨⟨c0, c1, c2, c3, c4, c5, c6, c7, c8, c9, c10, c11, c12, c13, c14, c15⟩, cf⟩ := row16 h9.row
            have f15 := cf 15
            have HK := Hid_of (HYES.out m p q _ HPK.out HMX.out (h9.cell (s' := { s with f := fup s.f x.s (some p), c := s.c + 1, fin := q, nx := q }) 15 (.int .i64 q) rfl rfl rfl) (hf9.trans (fr_cell 15 _)))
            clear h8 h8d hf8 hr8 h9 hf9 HW9 f14 cf hHeld hBwd hrun HS8 HS9 HYES B7 B9 c0 c1 c2 c3 c4 c5 c6 c7 c8 c9 c10 c11 c12 c13
            go_wp2
            go_end0
            exact HK.out
          · cases hfx : s.f x.s with
            | none =>
              have hfn := Hid_of hfx
              clear hfx
              go_enter Try.func93, Try.ntmps93
              go_upto_region 1 with fail
              rw [HW1.out]
              clear HW1
              refine wp_region_held_drew (S := fun wq => Below (W1).heap.size (W1) wq) (by kernel_rfl) (Below.drew (Below.refl _ _)) (fun hHeld => ?_)
              obtain ⟨wdg, hwdg⟩ : ∃ wd, W1.drew = wd := ⟨_, rfl⟩
              have hBwd : Below W1.heap.size W1 wdg := by rw [← hwdg]; exact Below.drew (Below.refl _ _)
              rw [hwdg] at hHeld ⊢
              clear hwdg
              refine Tm 0 ?p0g ?v0g hHeld ?r0g
              simp only [Act.put, Pa, Pb, Pc]
              refine Tk 1 ?p1g ?v1g ?y1g hHeld ?r1g
              case y1g => intro wq hq; obtain ⟨⟨a0, a1, a2, a3⟩, a5⟩ := HS.out wq hq; go_simp; try with_reducible rfl
              simp only [Act.put, Pa, Pb, Pc]
              refine Tm 2 ?p2g ?v2g hHeld ?r2g
              simp only [Act.put, Pa, Pb, Pc]
              refine Tm 3 ?p3g ?v3g hHeld ?r3g
              simp only [Act.put, Pa, Pb, Pc]
              refine Tm 4 ?p4g ?v4g hHeld ?r4g
              simp only [Act.put, Pa, Pb, Pc]
              refine Tk 5 ?p5g ?v5g ?y5g hHeld ?r5g
              case y5g => intro wq hq; obtain ⟨⟨a0, a1, a2, a3⟩, a5⟩ := HS.out wq hq; go_simp; try with_reducible rfl
              simp only [Act.put, Pa, Pb, Pc]
              refine Tm 6 ?p6g ?v6g hHeld ?r6g
              simp only [Act.put, Pa, Pb, Pc]
              refine Tm 7 ?p7g ?v7g hHeld ?r7g
              simp only [Act.put, Pa, Pb, Pc]
              refine Tm 8 ?p8g ?v8g hHeld ?r8g
              simp only [Act.put, Pa, Pb, Pc]
              refine Tk 9 ?p9g ?v9g ?y9g hHeld ?r9g
              case y9g => intro wq hq; obtain ⟨⟨a0, a1, a2, a3⟩, a5⟩ := HS.out wq hq; go_simp; try with_reducible rfl
              simp only [Act.put, Pa, Pb, Pc]
              refine Rd 10 ?p10g ?s10g
              intro K hK
              go_simp
              refine (cs _).mono ?_
              rintro e w2 ⟨rfl, hq2⟩
              obtain rfl := hq2.symm
              clear hq2
              refine hK.out _ _ hHeld (fun hHeld => ?_)
              clear hK K
              refine Tm 11 ?p11g_10 ?v11g_10 hHeld ?r11g_10
              simp only [Act.put, Pa, Pb, Pc]
              refine Tm 12 ?p12g_10 ?v12g_10 hHeld ?r12g_10
              simp only [Act.put, Pa, Pb, Pc]
              refine Tm 13 ?p13g_10 ?v13g_10 hHeld ?r13g_10
              simp only [Act.put, Pa, Pb, Pc]
              refine Tm 14 ?p14g_10 ?v14g_10 hHeld ?r14g_10
              simp only [Act.put, Pa, Pb, Pc]
              refine Tk 15 ?p15g_10 ?v15g_10 ?y15g_10 hHeld ?r15g_10
              case y15g_10 => intro wq hq; obtain ⟨⟨a0, a1, a2, a3⟩, a5⟩ := HS.out wq hq; go_simp; try with_reducible rfl
              simp only [Act.put, Pa, Pb, Pc]
              refine Rd 16 ?p16g_10 ?s16g_10
              intro K hK
              go_simp
              refine (cv _).mono ?_
              rintro e w3 ⟨rfl, hb3⟩
              have B3 : Below W1.heap.size W1 w3 := hHeld.trans (hb3.mono hHeld.size)
              refine hK.out _ _ B3 (fun hHeld => ?_)
              clear hK K
              refine Tm 17 ?p17g_10_16 ?v17g_10_16 hHeld ?r17g_10_16
              simp only [Act.put, Pa, Pb, Pc]
              refine Tm 18 ?p18g_10_16 ?v18g_10_16 hHeld ?r18g_10_16
              simp only [Act.put, Pa, Pb, Pc]
              refine Tm 19 ?p19g_10_16 ?v19g_10_16 hHeld ?r19g_10_16
              simp only [Act.put, Pa, Pb, Pc]
              refine Tm 20 ?p20g_10_16 ?v20g_10_16 hHeld ?r20g_10_16
              simp only [Act.put, Pa, Pb, Pc]
              refine Tk 21 ?p21g_10_16 ?v21g_10_16 ?y21g_10_16 hHeld ?r21g_10_16
              case y21g_10_16 => intro wq hq; obtain ⟨⟨a0, a1, a2, a3⟩, a5⟩ := HS.out wq hq; go_simp; try with_reducible rfl
              simp only [Act.put, Pa, Pb, Pc]
              refine Tm 22 ?p22g_10_16 ?v22g_10_16 hHeld ?r22g_10_16
              simp only [Act.put, Pa, Pb, Pc]
              refine Tm 23 ?p23g_10_16 ?v23g_10_16 hHeld ?r23g_10_16
              simp only [Act.put, Pa, Pb, Pc]
              refine Tm 24 ?p24g_10_16 ?v24g_10_16 hHeld ?r24g_10_16
              simp only [Act.put, Pa, Pb, Pc]
              refine wpAnyH_done (by kernel_rfl) ?_ _
              obtain ⟨W4, HW4⟩ : ∃ W4, Hid (w3.alloc (.cells #[.int .i64 x.s, .int .i64 x.b.i, .int .i64 x.b.t, .string x.v] 84) = W4) := ⟨_, Hid_of rfl⟩
              have hb4 : Below w3.heap.size w3 W4 := by rw [← HW4.out]; exact bel1 w3 _
              have hr4 : W4.heap[w3.heap.size]? = some (.cells #[.int .i64 x.s, .int .i64 x.b.i, .int .i64 x.b.t, .string x.v] 84 (0, 0)) := by rw [← HW4.out]; exact heap_alloc_last w3 _
              have hs13 := hHeld.size
              have h4 := HP1.out.keep (bel_up hHeld hb4 (Nat.le_refl _))
              have q4 := bel_row HR1.out (bel_up hHeld hb4 (Nat.le_refl _))
              have HF4 := Hid_of (bel_up (bel_up HB1.out hHeld (Nat.le_refl _)) hb4 (Nat.le_refl _))
              have HP4 := Hid_of h4
              have HR4 := Hid_of q4
              have HL4 : Hid (W4.heap[w3.heap.size]? = some (.cells (vl.cells [x]).toArray 84 (0, 0))) := hr4
              obtain ⟨u0, HU0⟩ : ∃ u0, Hid ((s.f x.s).getD zo = u0) := ⟨_, Hid_of rfl⟩
              obtain ⟨fd, HFD⟩ : ∃ fd, Hid ((s.f x.s).isSome = fd) := ⟨_, Hid_of rfl⟩
              have HS3 : Hid (∀ wq, Below W4.heap.size W4 wq → wq.cell? ⟨b, 13, none⟩ = some (.map mv) ∧ wq.cell? ⟨w.heap.size, 0, none⟩ = some (.int .i64 x.s) ∧ (Instr.lookup 95 (.map mv) (.int .i64 x.s) true).run Try.prog wq = .ok (.tuple #[vV u0, .bool fd]) wq) := fun wq hq => by
                have hk := HP4.out.keep hq
                have hl := hk.map.lookOk x.s hwf
                rw [HU0.out, HFD.out] at hl
                exact ⟨(row16 hk.row).1.2.2.2.2.2.2.2.2.2.2.2.2.2.1, (row4 (bel_row HR4.out hq)).1.1, hl⟩
              obtain ⟨⟨e0, e1, e2, e3⟩, -⟩ := row4 (bel_row HR1.out hHeld)
              clear h4 q4 hb4 hr4 hHeld
              go_upto_region 3 with fail
              rw [HW4.out]
              clear HW4
              refine wp_region_held_drew (S := fun wq => Below (W4).heap.size (W4) wq) (by kernel_rfl) (Below.drew (Below.refl _ _)) (fun hHeld => ?_)
              obtain ⟨wdh, hwdh⟩ : ∃ wd, W4.drew = wd := ⟨_, rfl⟩
              have hBwd : Below W4.heap.size W4 wdh := by rw [← hwdh]; exact Below.drew (Below.refl _ _)
              rw [hwdh] at hHeld ⊢
              clear hwdh
              refine Tm 0 ?p0h ?v0h hHeld ?r0h
              refine Tm 1 ?p1h ?v1h hHeld ?r1h
              refine Tm 2 ?p2h ?v2h hHeld ?r2h
              refine Tk 3 ?p3h ?v3h ?y3h hHeld ?r3h
              case y3h => intro wq hq; obtain ⟨a0, a1, a2⟩ := HS3.out wq hq; go_simp; try with_reducible rfl
              refine Tm 4 ?p4h ?v4h hHeld ?r4h
              refine Tk 5 ?p5h ?v5h ?y5h hHeld ?r5h
              case y5h => intro wq hq; obtain ⟨a0, a1, a2⟩ := HS3.out wq hq; go_simp; try with_reducible rfl
              refine Tk 6 ?p6h ?v6h ?y6h hHeld ?r6h
              case y6h => intro wq hq; obtain ⟨a0, a1, a2⟩ := HS3.out wq hq; go_simp; try with_reducible rfl
              refine Tm 7 ?p7h ?v7h hHeld ?r7h
              refine Tm 8 ?p8h ?v8h hHeld ?r8h
              refine Tm 9 ?p9h ?v9h hHeld ?r9h
              simp only [Act.put, Pa, Pb, Pc]
              refine Rd 10 ?p10h ?s10h
              intro K hK
              go_simp
              obtain ⟨wa, hwa⟩ : ∃ wa, wdh.alloc (.cells #[.int .i64 0, .int .i64 0, .int .i64 0, .string ⟨#[]⟩] 84) = wa := ⟨_, rfl⟩
              rw [hwa]
              have hba : Below wdh.heap.size wdh wa := by rw [← hwa]; exact bel1 _ _
              have hz : wa.heap[wdh.heap.size]? = some (.cells #[.int .i64 0, .int .i64 0, .int .i64 0, .string ⟨#[]⟩] 84 (0, 0)) := by rw [← hwa]; exact heap_alloc_last _ _
              obtain ⟨gz, hgz⟩ : ∃ gz, wdh.heap.size = gz := ⟨_, rfl⟩
              rw [hgz] at hz ⊢
              have hzW : W4.heap.size ≤ gz := by rw [← hgz]; exact hHeld.size
              clear hwa hgz
              have Ba := hHeld.trans (hba.mono hHeld.size)
              obtain ⟨⟨k0, k1, k2, k3⟩, kf⟩ := row4 hz
              have kf0 := kf 0
              have kf1 := kf 1
              have kf2 := kf 2
              have kf3 := kf 3
              refine hK.out _ _ Ba (fun hHeld => ?_)
              clear hK K
              refine Rd 11 ?p11h_10 ?s11h_10
              intro K hK
              go_simp
              obtain ⟨ws, hws⟩ : ∃ ws, put4 wa gz (.int .i64 u0.s) (.int .i64 u0.b.i) (.int .i64 u0.b.t) (.string u0.v) = ws := ⟨_, rfl⟩
              have hz2 := put4_row hz (.int .i64 u0.s) (.int .i64 u0.b.i) (.int .i64 u0.b.t) (.string u0.v)
              have hBs := put4_bel hHeld hzW (.int .i64 u0.s) (.int .i64 u0.b.i) (.int .i64 u0.b.t) (.string u0.v)
              rw [hws] at hz2 hBs
              unfold put4 at hws
              rw [hws]
              clear hws
              refine hK.out _ _ hBs (fun hHeld => ?_)
              clear hK K
              refine Tm 12 ?p12h_10_11 ?v12h_10_11 hHeld ?r12h_10_11
              simp only [Act.put, Pa, Pb, Pc]
              refine wpAnyH_done (by kernel_rfl) ?_ _
              have hnn : s.f x.s = none := hfn.out
              have HPK : Hid (M.pick2 (s.f x.s) x = x) := Hid_of (by rw [hnn]; rfl)
              obtain rfl : fd = false := by rw [← HFD.out, hnn]; rfl
              have HLs := Hid_of (bel_row HL4.out hHeld)
              have cp : ∀ W, AtL vl W (some ⟨w3.heap.size, 0, none⟩) [x] → Calls Try.prog 99 #[.slice (some ⟨w3.heap.size, 0, none⟩) 1 1] W fun e w' => e = .returned (.tuple #[vV x, .bool true]) ∧ Below W.heap.size W w' := fun W hat => pick_any (some ⟨w3.heap.size, 0, none⟩) 1 [x] W hat (by simp) (fun v hv => by
                simp only [List.mem_cons, List.not_mem_nil, or_false] at hv
                subst hv
                omega)
              obtain ⟨p, hp⟩ : ∃ p, p = x := ⟨_, rfl⟩
              have cp : ∀ W, AtL vl W (some ⟨w3.heap.size, 0, none⟩) [x] → Calls Try.prog 99 #[.slice (some ⟨w3.heap.size, 0, none⟩) 1 1] W fun e w' => e = .returned (.tuple #[vV p, .bool true]) ∧ Below W.heap.size W w' := by rw [hp]; exact cp
              have HPK : Hid (M.pick2 (s.f x.s) x = p) := Hid_of (by rw [hp]; exact HPK.out)
              clear hp
              obtain ⟨m, hmv⟩ : ∃ m, mv = some m := by
                cases mv with
                | none => exact (hmn rfl).elim
                | some m => exact ⟨m, rfl⟩
              subst hmv
              have HPt := Hid_of (HP4.out.keep hHeld)
              have HRt := Hid_of (bel_row HR4.out hHeld)
              have HFt : Hid (Fr w (fpp b (some m)) ws (fpp b (some m))) := Hid_of (Fr.ofBelow (bel_up HF4.out hHeld (Nat.le_refl _)))
              have HAt : Hid (AtL vl ws (some ⟨w3.heap.size, 0, none⟩) [x]) := at_votes (l := [x]) HLs.out
              obtain ⟨wt, hwt⟩ : ∃ wt, ws = wt := ⟨_, rfl⟩
              rw [hwt] at HPt HRt HFt HAt ⊢
              clear hnn hHeld HS3 HL4 HLs hBs kf kf0 kf1 kf2 kf3 k0 k1 k2 k3 Ba hz hzW hz2 HU0 HFD hwt
              have t13 := (row16 HPt.out.row).1.2.2.2.2.2.2.2.2.2.2.2.2.2.1
              have em := eq95_some m
              go_upto_region 8 with fail
              clear em
              have t13 := (row16 HPt.out.row).1.2.2.2.2.2.2.2.2.2.2.2.2.2.1
              have t0 := (row4 HRt.out).1.1
              have HS8 : Hid (∀ wq, (fun wq : World => wq.cell? ⟨b, 13, none⟩ = some (.map (some m)) ∧ wq.cell? ⟨w.heap.size, 0, none⟩ = some (.int .i64 x.s)) wq → wq.cell? ⟨b, 13, none⟩ = some (.map (some m)) ∧ wq.cell? ⟨w.heap.size, 0, none⟩ = some (.int .i64 x.s)) := fun wq h => h
              have HS9 : Hid (∀ wq, (fun wq : World => wq.cell? ⟨w.heap.size, 0, none⟩ = some (.int .i64 x.s)) wq → wq.cell? ⟨w.heap.size, 0, none⟩ = some (.int .i64 x.s)) := fun wq h => h
              refine wp_region_held_drew (S := fun wq : World => wq.cell? ⟨b, 13, none⟩ = some (.map (some m)) ∧ wq.cell? ⟨w.heap.size, 0, none⟩ = some (.int .i64 x.s)) (by kernel_rfl) ⟨t13, t0⟩ (fun hHeld => ?_)
              obtain ⟨wdht, hwdht⟩ : ∃ wd, wt.drew = wd := ⟨_, rfl⟩
              have hBwd : Below wt.heap.size wt wdht := by rw [← hwdht]; exact Below.drew (Below.refl _ _)
              rw [hwdht] at hHeld ⊢
              clear hwdht
              refine Tm 0 ?p0ht ?v0ht hHeld ?r0ht
              refine Tm 1 ?p1ht ?v1ht hHeld ?r1ht
              refine Tm 2 ?p2ht ?v2ht hHeld ?r2ht
              refine Tk 3 ?p3ht ?v3ht ?y3ht hHeld ?r3ht
              case y3ht => intro wq hq; obtain ⟨a0, a1⟩ := HS8.out wq hq; go_simp; try with_reducible rfl
              refine Tm 4 ?p4ht ?v4ht hHeld ?r4ht
              refine Tk 5 ?p5ht ?v5ht ?y5ht hHeld ?r5ht
              case y5ht => intro wq hq; obtain ⟨a0, a1⟩ := HS8.out wq hq; go_simp; try with_reducible rfl
              refine Tm 6 ?p6ht ?v6ht hHeld ?r6ht
              simp only [Act.put, Pa, Pb, Pc]
              refine Rd 7 ?p7ht ?s7ht
              intro K hK
              go_simp
              refine (cp _ (HAt.out.keep hBwd)).mono ?_
              rintro e v7 ⟨rfl, hb7⟩
              have hbt := bel_up hBwd hb7 (Nat.le_refl _)
              have h7 := HPt.out.keep hbt
              obtain ⟨w8, hrun, hm8, ht8⟩ := (h7.map.yes m rfl).1.put x.s hwf p (by unfold maxLen; omega)
              have hr7 := bel_row HRt.out hbt
              have B7 : v7.cell? ⟨b, 13, none⟩ = some (.map (some m)) ∧ v7.cell? ⟨w.heap.size, 0, none⟩ = some (.int .i64 x.s) := ⟨(row16 h7.row).1.2.2.2.2.2.2.2.2.2.2.2.2.2.1, (row4 hr7).1.1⟩
              have hr8 := (ht8.block w.heap.size ((h7.map.yes m rfl).1.ne hr7)).trans hr7
              have h8 : PI w8 base b (some m) { s with f := fup s.f x.s (some p), c := s.c + 1 } := ⟨(ht8.block b ((h7.map.yes m rfl).1.ne h7.row)).trans h7.row, ⟨(fun e => by cases e), fun m' hm' => by cases hm'; exact ⟨hm8, (h7.map.yes m rfl).2⟩⟩, h7.lo⟩
              have hf8 : Fr w (fpp b (some m)) w8 (fpp b (some m)) := (HFt.out.up hbt).trans ⟨ht8.os, ht8.tape, ht8.output, Nat.le_of_eq ht8.size.symm, (fun k _ hk => ht8.block k (fun e => hk (.inr (by rw [e])))), fun k hk => .inl hk⟩
              clear hb7 hbt h7 hr7 hm8 ht8
              refine hK.out _ _ B7 (fun hHeld => ?_)
              clear hK K
              refine Tm 8 ?p8ht_7 ?v8ht_7 hHeld ?r8ht_7
              refine Tm 9 ?p9ht_7 ?v9ht_7 hHeld ?r9ht_7
              refine Tm 10 ?p10ht_7 ?v10ht_7 hHeld ?r10ht_7
              simp only [Act.put, Pa, Pb, Pc]
              refine Rd 11 ?p11ht_7 ?s11ht_7
              intro K hK
              go_simp
              refine hK.out _ _ ⟨(row16 h8.row).1.2.2.2.2.2.2.2.2.2.2.2.2.2.1, (row4 hr8).1.1⟩ (fun hHeld => ?_)
              clear hK K
              refine wpAnyH_done (by kernel_rfl) ?_ _
              go_upto_region 9 with fail
              refine wp_region_held_drew (S := fun wq : World => wq.cell? ⟨w.heap.size, 0, none⟩ = some (.int .i64 x.s)) (by kernel_rfl) ((row4 hr8).1.1) (fun hHeld => ?_)
              obtain ⟨wdhtr, hwdhtr⟩ : ∃ wd, w8.drew = wd := ⟨_, rfl⟩
              have hBwd : Below w8.heap.size w8 wdhtr := by rw [← hwdhtr]; exact Below.drew (Below.refl _ _)
              rw [hwdhtr] at hHeld ⊢
              clear hwdhtr
              have h8d := h8.keep hBwd
              obtain ⟨⟨c0, c1, c2, c3, c4, c5, c6, c7, c8, c9, c10, c11, c12, c13, c14, c15⟩, cf⟩ := row16 h8d.row
              have f14 := cf 14
              clear c0 c1 c2 c3 c4 c5 c6 c7 c8 c9 c10 c11 c12 c13 c15 cf
              refine Tm 0 ?p0htr ?v0htr hHeld ?r0htr
              refine Tm 1 ?p1htr ?v1htr hHeld ?r1htr
              refine Tm 2 ?p2htr ?v2htr hHeld ?r2htr
              refine Tm 3 ?p3htr ?v3htr hHeld ?r3htr
              refine Tm 5 ?p5htr ?v5htr hHeld ?r5htr
              refine Tk 6 ?p6htr ?v6htr ?y6htr hHeld ?r6htr
              case y6htr => intro wq hq; obtain a0 := HS9.out wq hq; go_simp; try with_reducible rfl
              refine Tm 7 ?p7htr ?v7htr hHeld ?r7htr
              simp only [Act.put, Pa, Pb, Pc]
              refine Rd 4 ?p4htr ?s4htr
              intro K hK
              go_simp
              refine hK.out _ _ hHeld (fun hHeld => ?_)
              clear hK K
              refine Tm 8 ?p8htr_4 ?v8htr_4 hHeld ?r8htr_4
              refine Tm 9 ?p9htr_4 ?v9htr_4 hHeld ?r9htr_4
              refine Tm 10 ?p10htr_4 ?v10htr_4 hHeld ?r10htr_4
              simp only [Act.put, Pa, Pb, Pc]
              refine Rd 11 ?p11htr_4 ?s11htr_4
              intro K hK
              go_simp
              rw [HMX.out]
              have hne2 : w.heap.size ≠ b := by omega
              have B9 : (wdhtr.setCell ⟨b, 14, none⟩ (.int .i64 q)).cell? ⟨w.heap.size, 0, none⟩ = some (.int .i64 x.s) := (row4 ((heap_setCell_other wdhtr ⟨b, 14, none⟩ _ _ hne2).trans (bel_row hr8 hBwd))).1.1
              refine hK.out _ _ B9 (fun hHeld => ?_)
              clear hK K
              refine wpAnyH_done (by kernel_rfl) ?_ _
              have h9 : PI (wdhtr.setCell ⟨b, 14, none⟩ (.int .i64 q)) base b (some m) { s with f := fup s.f x.s (some p), c := s.c + 1, fin := q } := h8d.cell 14 _ rfl rfl rfl
              have hf9 : Fr w (fpp b (some m)) (wdhtr.setCell ⟨b, 14, none⟩ (.int .i64 q)) (fpp b (some m)) := (hf8.up hBwd).trans (fr_cell 14 _)
              obtain ⟨W9, HW9⟩ : ∃ W9, Hid (wdhtr.setCell ⟨b, 14, none⟩ (.int .i64 q) = W9) := ⟨_, Hid_of rfl⟩
              rw [HW9.out] at h9 hf9 ⊢
              obtain ⟨⟨c0, c1, c2, c3, c4, c5, c6, c7, c8, c9, c10, c11, c12, c13, c14, c15⟩, cf⟩ := row16 h9.row
              have f15 := cf 15
              have HK := Hid_of (HYES.out m p q _ HPK.out HMX.out (h9.cell (s' := { s with f := fup s.f x.s (some p), c := s.c + 1, fin := q, nx := q }) 15 (.int .i64 q) rfl rfl rfl) (hf9.trans (fr_cell 15 _)))
              clear h8 h8d hf8 hr8 h9 hf9 HW9 f14 cf hHeld hBwd hrun HS8 HS9 HYES B7 B9 c0 c1 c2 c3 c4 c5 c6 c7 c8 c9 c10 c11 c12 c13
              go_wp2
              go_end0
              exact HK.out
            | some u =>
              have hfd : Hid ((s.f x.s).isSome = true) := Hid_of (by rw [hfx]; rfl)
              clear hfx
              go_enter Try.func93, Try.ntmps93
              go_upto_region 1 with fail
              rw [HW1.out]
              clear HW1
              refine wp_region_held_drew (S := fun wq => Below (W1).heap.size (W1) wq) (by kernel_rfl) (Below.drew (Below.refl _ _)) (fun hHeld => ?_)
              obtain ⟨wdi, hwdi⟩ : ∃ wd, W1.drew = wd := ⟨_, rfl⟩
              have hBwd : Below W1.heap.size W1 wdi := by rw [← hwdi]; exact Below.drew (Below.refl _ _)
              rw [hwdi] at hHeld ⊢
              clear hwdi
              refine Tm 0 ?p0i ?v0i hHeld ?r0i
              simp only [Act.put, Pa, Pb, Pc]
              refine Tk 1 ?p1i ?v1i ?y1i hHeld ?r1i
              case y1i => intro wq hq; obtain ⟨⟨a0, a1, a2, a3⟩, a5⟩ := HS.out wq hq; go_simp; try with_reducible rfl
              simp only [Act.put, Pa, Pb, Pc]
              refine Tm 2 ?p2i ?v2i hHeld ?r2i
              simp only [Act.put, Pa, Pb, Pc]
              refine Tm 3 ?p3i ?v3i hHeld ?r3i
              simp only [Act.put, Pa, Pb, Pc]
              refine Tm 4 ?p4i ?v4i hHeld ?r4i
              simp only [Act.put, Pa, Pb, Pc]
              refine Tk 5 ?p5i ?v5i ?y5i hHeld ?r5i
              case y5i => intro wq hq; obtain ⟨⟨a0, a1, a2, a3⟩, a5⟩ := HS.out wq hq; go_simp; try with_reducible rfl
              simp only [Act.put, Pa, Pb, Pc]
              refine Tm 6 ?p6i ?v6i hHeld ?r6i
              simp only [Act.put, Pa, Pb, Pc]
              refine Tm 7 ?p7i ?v7i hHeld ?r7i
              simp only [Act.put, Pa, Pb, Pc]
              refine Tm 8 ?p8i ?v8i hHeld ?r8i
              simp only [Act.put, Pa, Pb, Pc]
              refine Tk 9 ?p9i ?v9i ?y9i hHeld ?r9i
              case y9i => intro wq hq; obtain ⟨⟨a0, a1, a2, a3⟩, a5⟩ := HS.out wq hq; go_simp; try with_reducible rfl
              simp only [Act.put, Pa, Pb, Pc]
              refine Rd 10 ?p10i ?s10i
              intro K hK
              go_simp
              refine (cs _).mono ?_
              rintro e w2 ⟨rfl, hq2⟩
              obtain rfl := hq2.symm
              clear hq2
              refine hK.out _ _ hHeld (fun hHeld => ?_)
              clear hK K
              refine Tm 11 ?p11i_10 ?v11i_10 hHeld ?r11i_10
              simp only [Act.put, Pa, Pb, Pc]
              refine Tm 12 ?p12i_10 ?v12i_10 hHeld ?r12i_10
              simp only [Act.put, Pa, Pb, Pc]
              refine Tm 13 ?p13i_10 ?v13i_10 hHeld ?r13i_10
              simp only [Act.put, Pa, Pb, Pc]
              refine Tm 14 ?p14i_10 ?v14i_10 hHeld ?r14i_10
              simp only [Act.put, Pa, Pb, Pc]
              refine Tk 15 ?p15i_10 ?v15i_10 ?y15i_10 hHeld ?r15i_10
              case y15i_10 => intro wq hq; obtain ⟨⟨a0, a1, a2, a3⟩, a5⟩ := HS.out wq hq; go_simp; try with_reducible rfl
              simp only [Act.put, Pa, Pb, Pc]
              refine Rd 16 ?p16i_10 ?s16i_10
              intro K hK
              go_simp
              refine (cv _).mono ?_
              rintro e w3 ⟨rfl, hb3⟩
              have B3 : Below W1.heap.size W1 w3 := hHeld.trans (hb3.mono hHeld.size)
              refine hK.out _ _ B3 (fun hHeld => ?_)
              clear hK K
              refine Tm 17 ?p17i_10_16 ?v17i_10_16 hHeld ?r17i_10_16
              simp only [Act.put, Pa, Pb, Pc]
              refine Tm 18 ?p18i_10_16 ?v18i_10_16 hHeld ?r18i_10_16
              simp only [Act.put, Pa, Pb, Pc]
              refine Tm 19 ?p19i_10_16 ?v19i_10_16 hHeld ?r19i_10_16
              simp only [Act.put, Pa, Pb, Pc]
              refine Tm 20 ?p20i_10_16 ?v20i_10_16 hHeld ?r20i_10_16
              simp only [Act.put, Pa, Pb, Pc]
              refine Tk 21 ?p21i_10_16 ?v21i_10_16 ?y21i_10_16 hHeld ?r21i_10_16
              case y21i_10_16 => intro wq hq; obtain ⟨⟨a0, a1, a2, a3⟩, a5⟩ := HS.out wq hq; go_simp; try with_reducible rfl
              simp only [Act.put, Pa, Pb, Pc]
              refine Tm 22 ?p22i_10_16 ?v22i_10_16 hHeld ?r22i_10_16
              simp only [Act.put, Pa, Pb, Pc]
              refine Tm 23 ?p23i_10_16 ?v23i_10_16 hHeld ?r23i_10_16
              simp only [Act.put, Pa, Pb, Pc]
              refine Tm 24 ?p24i_10_16 ?v24i_10_16 hHeld ?r24i_10_16
              simp only [Act.put, Pa, Pb, Pc]
              refine wpAnyH_done (by kernel_rfl) ?_ _
              obtain ⟨W4, HW4⟩ : ∃ W4, Hid (w3.alloc (.cells #[.int .i64 x.s, .int .i64 x.b.i, .int .i64 x.b.t, .string x.v] 84) = W4) := ⟨_, Hid_of rfl⟩
              have hb4 : Below w3.heap.size w3 W4 := by rw [← HW4.out]; exact bel1 w3 _
              have hr4 : W4.heap[w3.heap.size]? = some (.cells #[.int .i64 x.s, .int .i64 x.b.i, .int .i64 x.b.t, .string x.v] 84 (0, 0)) := by rw [← HW4.out]; exact heap_alloc_last w3 _
              have hs13 := hHeld.size
              have h4 := HP1.out.keep (bel_up hHeld hb4 (Nat.le_refl _))
              have q4 := bel_row HR1.out (bel_up hHeld hb4 (Nat.le_refl _))
              have HF4 := Hid_of (bel_up (bel_up HB1.out hHeld (Nat.le_refl _)) hb4 (Nat.le_refl _))
              have HP4 := Hid_of h4
              have HR4 := Hid_of q4
              have HL4 : Hid (W4.heap[w3.heap.size]? = some (.cells (vl.cells [x]).toArray 84 (0, 0))) := hr4
              obtain ⟨u0, HU0⟩ : ∃ u0, Hid ((s.f x.s).getD zo = u0) := ⟨_, Hid_of rfl⟩
              obtain ⟨fd, HFD⟩ : ∃ fd, Hid ((s.f x.s).isSome = fd) := ⟨_, Hid_of rfl⟩
              have HS3 : Hid (∀ wq, Below W4.heap.size W4 wq → wq.cell? ⟨b, 13, none⟩ = some (.map mv) ∧ wq.cell? ⟨w.heap.size, 0, none⟩ = some (.int .i64 x.s) ∧ (Instr.lookup 95 (.map mv) (.int .i64 x.s) true).run Try.prog wq = .ok (.tuple #[vV u0, .bool fd]) wq) := fun wq hq => by
                have hk := HP4.out.keep hq
                have hl := hk.map.lookOk x.s hwf
                rw [HU0.out, HFD.out] at hl
                exact ⟨(row16 hk.row).1.2.2.2.2.2.2.2.2.2.2.2.2.2.1, (row4 (bel_row HR4.out hq)).1.1, hl⟩
              obtain ⟨⟨e0, e1, e2, e3⟩, -⟩ := row4 (bel_row HR1.out hHeld)
              clear h4 q4 hb4 hr4 hHeld
              go_upto_region 3 with fail
              rw [HW4.out]
              clear HW4
              refine wp_region_held_drew (S := fun wq => Below (W4).heap.size (W4) wq) (by kernel_rfl) (Below.drew (Below.refl _ _)) (fun hHeld => ?_)
              obtain ⟨wdj, hwdj⟩ : ∃ wd, W4.drew = wd := ⟨_, rfl⟩
              have hBwd : Below W4.heap.size W4 wdj := by rw [← hwdj]; exact Below.drew (Below.refl _ _)
              rw [hwdj] at hHeld ⊢
              clear hwdj
              refine Tm 0 ?p0j ?v0j hHeld ?r0j
              refine Tm 1 ?p1j ?v1j hHeld ?r1j
              refine Tm 2 ?p2j ?v2j hHeld ?r2j
              refine Tk 3 ?p3j ?v3j ?y3j hHeld ?r3j
              case y3j => intro wq hq; obtain ⟨a0, a1, a2⟩ := HS3.out wq hq; go_simp; try with_reducible rfl
              refine Tm 4 ?p4j ?v4j hHeld ?r4j
              refine Tk 5 ?p5j ?v5j ?y5j hHeld ?r5j
              case y5j => intro wq hq; obtain ⟨a0, a1, a2⟩ := HS3.out wq hq; go_simp; try with_reducible rfl
              refine Tk 6 ?p6j ?v6j ?y6j hHeld ?r6j
              case y6j => intro wq hq; obtain ⟨a0, a1, a2⟩ := HS3.out wq hq; go_simp; try with_reducible rfl
              refine Tm 7 ?p7j ?v7j hHeld ?r7j
              refine Tm 8 ?p8j ?v8j hHeld ?r8j
              refine Tm 9 ?p9j ?v9j hHeld ?r9j
              simp only [Act.put, Pa, Pb, Pc]
              refine Rd 10 ?p10j ?s10j
              intro K hK
              go_simp
              obtain ⟨wa, hwa⟩ : ∃ wa, wdj.alloc (.cells #[.int .i64 0, .int .i64 0, .int .i64 0, .string ⟨#[]⟩] 84) = wa := ⟨_, rfl⟩
              rw [hwa]
              have hba : Below wdj.heap.size wdj wa := by rw [← hwa]; exact bel1 _ _
              have hz : wa.heap[wdj.heap.size]? = some (.cells #[.int .i64 0, .int .i64 0, .int .i64 0, .string ⟨#[]⟩] 84 (0, 0)) := by rw [← hwa]; exact heap_alloc_last _ _
              obtain ⟨gz, hgz⟩ : ∃ gz, wdj.heap.size = gz := ⟨_, rfl⟩
              rw [hgz] at hz ⊢
              have hzW : W4.heap.size ≤ gz := by rw [← hgz]; exact hHeld.size
              clear hwa hgz
              have Ba := hHeld.trans (hba.mono hHeld.size)
              obtain ⟨⟨k0, k1, k2, k3⟩, kf⟩ := row4 hz
              have kf0 := kf 0
              have kf1 := kf 1
              have kf2 := kf 2
              have kf3 := kf 3
              refine hK.out _ _ Ba (fun hHeld => ?_)
              clear hK K
              refine Rd 11 ?p11j_10 ?s11j_10
              intro K hK
              go_simp
              obtain ⟨ws, hws⟩ : ∃ ws, put4 wa gz (.int .i64 u0.s) (.int .i64 u0.b.i) (.int .i64 u0.b.t) (.string u0.v) = ws := ⟨_, rfl⟩
              have hz2 := put4_row hz (.int .i64 u0.s) (.int .i64 u0.b.i) (.int .i64 u0.b.t) (.string u0.v)
              have hBs := put4_bel hHeld hzW (.int .i64 u0.s) (.int .i64 u0.b.i) (.int .i64 u0.b.t) (.string u0.v)
              rw [hws] at hz2 hBs
              unfold put4 at hws
              rw [hws]
              clear hws
              refine hK.out _ _ hBs (fun hHeld => ?_)
              clear hK K
              refine Tm 12 ?p12j_10_11 ?v12j_10_11 hHeld ?r12j_10_11
              simp only [Act.put, Pa, Pb, Pc]
              refine wpAnyH_done (by kernel_rfl) ?_ _
              obtain rfl : fd = true := by rw [← HFD.out, hfd.out]
              have hsm : s.f x.s = some u0 := by
                have h1 := HU0.out
                have h2 := hfd.out
                cases hfx : s.f x.s with
                | none => rw [hfx] at h2; cases h2
                | some u => rw [hfx] at h1; exact congrArg some h1
              have HPK : Hid (M.pick2 (s.f x.s) x = M.vx [u0, x] 2) := Hid_of (by rw [hsm, M.vx_two]; rfl)
              have hsz0 := ok.sz x.s u0 hsm
              have hrx := bel_row HR4.out hHeld
              obtain ⟨⟨g0, g1, g2, g3⟩, -⟩ := row4 hz2
              obtain ⟨⟨y0, y1, y2, y3⟩, -⟩ := row4 hrx
              obtain ⟨W5, HW5⟩ : ∃ W5, Hid (ws.alloc (.cells #[.int .i64 u0.s, .int .i64 u0.b.i, .int .i64 u0.b.t, .string u0.v, .int .i64 x.s, .int .i64 x.b.i, .int .i64 x.b.t, .string x.v] 84) = W5) := ⟨_, Hid_of rfl⟩
              have hb5 : Below ws.heap.size ws W5 := by rw [← HW5.out]; exact bel1 ws _
              have hr5 : W5.heap[ws.heap.size]? = some (.cells #[.int .i64 u0.s, .int .i64 u0.b.i, .int .i64 u0.b.t, .string u0.v, .int .i64 x.s, .int .i64 x.b.i, .int .i64 x.b.t, .string x.v] 84 (0, 0)) := by rw [← HW5.out]; exact heap_alloc_last ws _
              have hbq := bel_up hHeld hb5 (Nat.le_refl _)
              have HPt := Hid_of (HP4.out.keep hbq)
              have HRt := Hid_of (bel_row HR4.out hbq)
              have HFt : Hid (Fr w (fpp b mv) W5 (fpp b mv)) := Hid_of (Fr.ofBelow (bel_up HF4.out hbq (Nat.le_refl _)))
              have HAt : Hid (AtL vl W5 (some ⟨ws.heap.size, 0, none⟩) [u0, x]) := at_votes (l := [u0, x]) hr5
              have cp : ∀ W, AtL vl W (some ⟨ws.heap.size, 0, none⟩) [u0, x] → Calls Try.prog 99 #[.slice (some ⟨ws.heap.size, 0, none⟩) 2 2] W fun e w' => e = .returned (.tuple #[vV (M.vx [u0, x] 2), .bool true]) ∧ Below W.heap.size W w' := fun W hat => pick_any (some ⟨ws.heap.size, 0, none⟩) 2 [u0, x] W hat (by simp) (fun v hv => by
                simp only [List.mem_cons, List.not_mem_nil, or_false] at hv
                rcases hv with rfl | rfl
                · omega
                · omega)
              generalize M.vx [u0, x] 2 = p at *
              clear hsm hz2 hb5 hr5 hbq hHeld HS3 HL4 hBs kf kf0 kf1 kf2 kf3 k0 k1 k2 k3 Ba hz hzW hrx HU0 HFD
              go_upto_region 6 with fail
              rw [HW5.out]
              clear HW5 g0 g1 g2 g3 y0 y1 y2 y3
              obtain ⟨m, hmv⟩ : ∃ m, mv = some m := by
                cases mv with
                | none => exact (hmn rfl).elim
                | some m => exact ⟨m, rfl⟩
              subst hmv
              obtain ⟨wt, hwt⟩ : ∃ wt, W5 = wt := ⟨_, rfl⟩
              rw [hwt] at HPt HRt HFt HAt ⊢
              clear hwt
              have t13 := (row16 HPt.out.row).1.2.2.2.2.2.2.2.2.2.2.2.2.2.1
              have em := eq95_some m
              go_upto_region 8 with fail
              clear em
              have t13 := (row16 HPt.out.row).1.2.2.2.2.2.2.2.2.2.2.2.2.2.1
              have t0 := (row4 HRt.out).1.1
              have HS8 : Hid (∀ wq, (fun wq : World => wq.cell? ⟨b, 13, none⟩ = some (.map (some m)) ∧ wq.cell? ⟨w.heap.size, 0, none⟩ = some (.int .i64 x.s)) wq → wq.cell? ⟨b, 13, none⟩ = some (.map (some m)) ∧ wq.cell? ⟨w.heap.size, 0, none⟩ = some (.int .i64 x.s)) := fun wq h => h
              have HS9 : Hid (∀ wq, (fun wq : World => wq.cell? ⟨w.heap.size, 0, none⟩ = some (.int .i64 x.s)) wq → wq.cell? ⟨w.heap.size, 0, none⟩ = some (.int .i64 x.s)) := fun wq h => h
              refine wp_region_held_drew (S := fun wq : World => wq.cell? ⟨b, 13, none⟩ = some (.map (some m)) ∧ wq.cell? ⟨w.heap.size, 0, none⟩ = some (.int .i64 x.s)) (by kernel_rfl) ⟨t13, t0⟩ (fun hHeld => ?_)
              obtain ⟨wdjt, hwdjt⟩ : ∃ wd, wt.drew = wd := ⟨_, rfl⟩
              have hBwd : Below wt.heap.size wt wdjt := by rw [← hwdjt]; exact Below.drew (Below.refl _ _)
              rw [hwdjt] at hHeld ⊢
              clear hwdjt
              refine Tm 0 ?p0jt ?v0jt hHeld ?r0jt
              refine Tm 1 ?p1jt ?v1jt hHeld ?r1jt
              refine Tm 2 ?p2jt ?v2jt hHeld ?r2jt
              refine Tk 3 ?p3jt ?v3jt ?y3jt hHeld ?r3jt
              case y3jt => intro wq hq; obtain ⟨a0, a1⟩ := HS8.out wq hq; go_simp; try with_reducible rfl
              refine Tm 4 ?p4jt ?v4jt hHeld ?r4jt
              refine Tk 5 ?p5jt ?v5jt ?y5jt hHeld ?r5jt
              case y5jt => intro wq hq; obtain ⟨a0, a1⟩ := HS8.out wq hq; go_simp; try with_reducible rfl
              refine Tm 6 ?p6jt ?v6jt hHeld ?r6jt
              simp only [Act.put, Pa, Pb, Pc]
              refine Rd 7 ?p7jt ?s7jt
              intro K hK
              go_simp
              refine (cp _ (HAt.out.keep hBwd)).mono ?_
              rintro e v7 ⟨rfl, hb7⟩
              have hbt := bel_up hBwd hb7 (Nat.le_refl _)
              have h7 := HPt.out.keep hbt
              obtain ⟨w8, hrun, hm8, ht8⟩ := (h7.map.yes m rfl).1.put x.s hwf p (by unfold maxLen; omega)
              have hr7 := bel_row HRt.out hbt
              have B7 : v7.cell? ⟨b, 13, none⟩ = some (.map (some m)) ∧ v7.cell? ⟨w.heap.size, 0, none⟩ = some (.int .i64 x.s) := ⟨(row16 h7.row).1.2.2.2.2.2.2.2.2.2.2.2.2.2.1, (row4 hr7).1.1⟩
              have hr8 := (ht8.block w.heap.size ((h7.map.yes m rfl).1.ne hr7)).trans hr7
              have h8 : PI w8 base b (some m) { s with f := fup s.f x.s (some p), c := s.c + 1 } := ⟨(ht8.block b ((h7.map.yes m rfl).1.ne h7.row)).trans h7.row, ⟨(fun e => by cases e), fun m' hm' => by cases hm'; exact ⟨hm8, (h7.map.yes m rfl).2⟩⟩, h7.lo⟩
              have hf8 : Fr w (fpp b (some m)) w8 (fpp b (some m)) := (HFt.out.up hbt).trans ⟨ht8.os, ht8.tape, ht8.output, Nat.le_of_eq ht8.size.symm, (fun k _ hk => ht8.block k (fun e => hk (.inr (by rw [e])))), fun k hk => .inl hk⟩
              clear hb7 hbt h7 hr7 hm8 ht8
              refine hK.out _ _ B7 (fun hHeld => ?_)
              clear hK K
              refine Tm 8 ?p8jt_7 ?v8jt_7 hHeld ?r8jt_7
              refine Tm 9 ?p9jt_7 ?v9jt_7 hHeld ?r9jt_7
              refine Tm 10 ?p10jt_7 ?v10jt_7 hHeld ?r10jt_7
              simp only [Act.put, Pa, Pb, Pc]
              refine Rd 11 ?p11jt_7 ?s11jt_7
              intro K hK
              go_simp
              refine hK.out _ _ ⟨(row16 h8.row).1.2.2.2.2.2.2.2.2.2.2.2.2.2.1, (row4 hr8).1.1⟩ (fun hHeld => ?_)
              clear hK K
              refine wpAnyH_done (by kernel_rfl) ?_ _
              go_upto_region 9 with fail
              refine wp_region_held_drew (S := fun wq : World => wq.cell? ⟨w.heap.size, 0, none⟩ = some (.int .i64 x.s)) (by kernel_rfl) ((row4 hr8).1.1) (fun hHeld => ?_)
              obtain ⟨wdjtr, hwdjtr⟩ : ∃ wd, w8.drew = wd := ⟨_, rfl⟩
              have hBwd : Below w8.heap.size w8 wdjtr := by rw [← hwdjtr]; exact Below.drew (Below.refl _ _)
              rw [hwdjtr] at hHeld ⊢
              clear hwdjtr
              have h8d := h8.keep hBwd
              obtain ⟨⟨c0, c1, c2, c3, c4, c5, c6, c7, c8, c9, c10, c11, c12, c13, c14, c15⟩, cf⟩ := row16 h8d.row
              have f14 := cf 14
              clear c0 c1 c2 c3 c4 c5 c6 c7 c8 c9 c10 c11 c12 c13 c15 cf
              refine Tm 0 ?p0jtr ?v0jtr hHeld ?r0jtr
              refine Tm 1 ?p1jtr ?v1jtr hHeld ?r1jtr
              refine Tm 2 ?p2jtr ?v2jtr hHeld ?r2jtr
              refine Tm 3 ?p3jtr ?v3jtr hHeld ?r3jtr
              refine Tm 5 ?p5jtr ?v5jtr hHeld ?r5jtr
              refine Tk 6 ?p6jtr ?v6jtr ?y6jtr hHeld ?r6jtr
              case y6jtr => intro wq hq; obtain a0 := HS9.out wq hq; go_simp; try with_reducible rfl
              refine Tm 7 ?p7jtr ?v7jtr hHeld ?r7jtr
              simp only [Act.put, Pa, Pb, Pc]
              refine Rd 4 ?p4jtr ?s4jtr
              intro K hK
              go_simp
              refine hK.out _ _ hHeld (fun hHeld => ?_)
              clear hK K
              refine Tm 8 ?p8jtr_4 ?v8jtr_4 hHeld ?r8jtr_4
              refine Tm 9 ?p9jtr_4 ?v9jtr_4 hHeld ?r9jtr_4
              refine Tm 10 ?p10jtr_4 ?v10jtr_4 hHeld ?r10jtr_4
              simp only [Act.put, Pa, Pb, Pc]
              refine Rd 11 ?p11jtr_4 ?s11jtr_4
              intro K hK
              go_simp
              rw [HMX.out]
              have hne2 : w.heap.size ≠ b := by omega
              have B9 : (wdjtr.setCell ⟨b, 14, none⟩ (.int .i64 q)).cell? ⟨w.heap.size, 0, none⟩ = some (.int .i64 x.s) := (row4 ((heap_setCell_other wdjtr ⟨b, 14, none⟩ _ _ hne2).trans (bel_row hr8 hBwd))).1.1
              refine hK.out _ _ B9 (fun hHeld => ?_)
              clear hK K
              refine wpAnyH_done (by kernel_rfl) ?_ _
              have h9 : PI (wdjtr.setCell ⟨b, 14, none⟩ (.int .i64 q)) base b (some m) { s with f := fup s.f x.s (some p), c := s.c + 1, fin := q } := h8d.cell 14 _ rfl rfl rfl
              have hf9 : Fr w (fpp b (some m)) (wdjtr.setCell ⟨b, 14, none⟩ (.int .i64 q)) (fpp b (some m)) := (hf8.up hBwd).trans (fr_cell 14 _)
              obtain ⟨W9, HW9⟩ : ∃ W9, Hid (wdjtr.setCell ⟨b, 14, none⟩ (.int .i64 q) = W9) := ⟨_, Hid_of rfl⟩
              rw [HW9.out] at h9 hf9 ⊢
              obtain ⟨⟨c0, c1, c2, c3, c4, c5, c6, c7, c8, c9, c10, c11, c12, c13, c14, c15⟩, cf⟩ := row16 h9.row
              have f15 := cf 15
              have HK := Hid_of (HYES.out m p q _ HPK.out HMX.out (h9.cell (s' := { s with f := fup s.f x.s (some p), c := s.c + 1, fin := q, nx := q }) 15 (.int .i64 q) rfl rfl rfl) (hf9.trans (fr_cell 15 _)))
              clear h8 h8d hf8 hr8 h9 hf9 HW9 f14 cf hHeld hBwd hrun HS8 HS9 HYES B7 B9 c0 c1 c2 c3 c4 c5 c6 c7 c8 c9 c10 c11 c12 c13
              go_wp2
              go_end0
              exact HK.out
end

end Go.Proofs.Ytgodnpngdbelhaa.Np
