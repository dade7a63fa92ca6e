/-
  A node has promised.
-/
import Derived.Test.YtgodnpngdbelhaaG07
namespace Go.Proofs.Ytgodnpngdbelhaa.Np
open Go.RowKit Go.Maps
set_option linter.unusedVariables false
open Go.Proofs.Ytgodnpngdbelhaa.M (E V)
open Go.Proofs.Ytgodnpngdbelhaa.Np.M (fup)

theorem equal60 (a b c d : Int) (w : World) : (Op.equalIn 10000 60 (.agg #[.int .i64 a, .int .i64 b]) (.agg #[.int .i64 c, .int .i64 d])).run Try.prog w = .ok (decide (a = c) && decide (b = d)) w := by
  have u3 := Try.underlying3
  have a3 := Try.isAgg3
  have z3 := Try.sizeOf3
  have hS : Try.prog.underlying 60 = some (.struct (Try.prog.fieldsOf 60)) := by kernel_rfl
  have hp : Try.prog.stoodInHeld 60 = false := by kernel_rfl
  rw [show (10000 : Nat) = 9999 + 1 from rfl, run_equalIn_agg w 9999 60 _ _ hS hp]
  simp only [Program.fieldsOf, Try.underlying60]
  by_cases h1 : a = c
  · by_cases h2 : b = d
    · subst h1 h2
      go_simp
    · subst h1
      go_simp
  · go_simp
theorem ne60 (a b c d : Int) (w : World) : (binOp .neq 60 (.agg #[.int .i64 a, .int .i64 b]) (.agg #[.int .i64 c, .int .i64 d])).run Try.prog w = .ok (.bool (!(decide (a = c) && decide (b = d)))) w := by
  rw [run_neq_struct, equal60]
  rfl
theorem prow_who (s : M.S) (mv : Option Nat) (j : Nat) (h : j < 7) : (prow s mv).setIfInBounds (6 + j) (.bool true) = prow { s with who := M.wset s.who j } mv := by
  obtain rfl | rfl | rfl | rfl | rfl | rfl | rfl : j = 0 ∨ j = 1 ∨ j = 2 ∨ j = 3 ∨ j = 4 ∨ j = 5 ∨ j = 6 := by omega
  all_goals simp [prow, M.wset]
theorem whoCell {w : World} {b : Nat} {s : M.S} {mv : Option Nat} (h : w.heap[b]? = some (.cells (prow s mv) 97 (0, 0))) (j : Nat) (hj : j < 7) : w.cell? ⟨b, 6 + j, none⟩ = some (.bool (s.who j)) := by
  obtain ⟨⟨c0, c1, c2, c3, c4, c5, c6, c7, c8, c9, c10, c11, c12, c13, c14, c15⟩, _⟩ := row16 h
  obtain rfl | rfl | rfl | rfl | rfl | rfl | rfl : j = 0 ∨ j = 1 ∨ j = 2 ∨ j = 3 ∨ j = 4 ∨ j = 5 ∨ j = 6 := by omega
  · exact c6
  · exact c7
  · exact c8
  · exact c9
  · exact c10
  · exact c11
  · exact c12
/-- What Promise leaves. -/
def PrOut (w : World) (base b : Nat) (mv : Option Nat) (s : M.S) (k : Int) (x : E) (l : List V) (e : Ending) (w' : World) : Prop := ∃ mv', e = .returned (.bool (M.prb s k x)) ∧ PI w' base b mv' (M.prs s k x l) ∧ Fr w (fpp b mv) w' (fpp b mv')
section
variable {w : World} {base b : Nat} {mv : Option Nat} {s : M.S}
set_option maxRecDepth 100000 in
set_option maxHeartbeats 2000000 in
theorem promise_any (h : PI w base b mv s) (ok : M.Ok s) (k : Int) (x : E) (a : Option Addr) (cap : Nat) (l : List V) (hat : AtL vl w a l) (hap : 0 < l.length → ∀ k, blk a k → ¬ fpp b mv k) (hcl : s.c + l.length ≤ 900000) : Calls Try.prog 83 #[.pointer (some ⟨b, 0, none⟩), .int .i64 k, bV x, .slice a l.length cap] w (PrOut w base b mv s k x l) := by
  obtain ⟨W1, HW1⟩ : ∃ W1, Hid (w.alloc (.cells #[.int .i64 x.i, .int .i64 x.t] 60) = W1) := ⟨_, Hid_of rfl⟩
  have hb1 : Below w.heap.size w W1 := by rw [← HW1.out]; exact bel1 w _
  have hr1 : W1.heap[w.heap.size]? = some (.cells #[.int .i64 x.i, .int .i64 x.t] 60 (0, 0)) := by rw [← HW1.out]; exact heap_alloc_last w _
  have h1 := h.keep hb1
  have HS : Hid (∀ w', Below W1.heap.size W1 w' → (w'.cell? ⟨w.heap.size, 0, none⟩ = some (.int .i64 x.i) ∧ w'.cell? ⟨w.heap.size, 1, none⟩ = some (.int .i64 x.t)) ∧ w'.cell? ⟨b, 0, none⟩ = some (.int .i64 s.n) ∧ w'.cell? ⟨b, 2, none⟩ = some (.int .i64 s.st) ∧ w'.cell? ⟨b, 3, none⟩ = some (.int .i64 s.b.i) ∧ w'.cell? ⟨b, 4, none⟩ = some (.int .i64 s.b.t)) := fun w' hw' => by
    obtain ⟨⟨c0, c1, c2, c3, c4, c5, c6, c7, c8, c9, c10, c11, c12, c13, c14, c15⟩, -⟩ := row16 (h1.keep hw').row
    exact ⟨(row2 (bel_row hr1 hw')).1, c0, c2, c3, c4⟩
  have HNO : Hid (M.prm s k x = false → ∀ w', Below W1.heap.size W1 w' → PrOut w base b mv s k x l (.returned (.bool false)) w') := fun e w' hw' => ⟨mv, by unfold M.prb; rw [e]; rfl, by unfold M.prs; rw [e]; exact h1.keep hw', Fr.ofBelow (bel_up hb1 hw' (Nat.le_refl _))⟩
  have HPM : Hid (M.prm s k x = (decide (s.st = 1) && (decide (x.i = s.b.i) && decide (x.t = s.b.t)) && decide (0 ≤ k) && decide (k < s.n) && !s.who k.toNat)) := rfl
  have HP1 := Hid_of h1
  have HB1 := Hid_of hb1
  have hne := ne60 x.i x.t s.b.i s.b.t
  have HAT := Hid_of hat
  have HAP := Hid_of hap
  have hn7 := ok.n7
  clear h h1 hb1 hr1 hat hap
  by_cases h0 : s.st = 1
  · have d0 : (s.st != 1) = false := by simpa using h0
    have e0 : decide (s.st = 1) = true := decide_eq_true h0
    cases hb : (decide (x.i = s.b.i) && decide (x.t = s.b.t)) with
    | false =>
      have HQ := Hid_of (HNO.out (by rw [HPM.out, hb, Bool.and_false]; rfl))
      rw [hb] at hne
      clear HNO HPM h0 e0 hb
      go_enter Try.func83, Try.ntmps83
      go_upto_region 1 with fail
      rw [HW1.out]
      clear HW1
      refine wp_region_held_drew (S := fun wq => Below (W1).heap.size (W1) wq) (by kernel_rfl) (Below.drew (Below.refl _ _)) (fun hHeld => ?_)
      obtain ⟨wdb, hwdb⟩ : ∃ wd, W1.drew = wd := ⟨_, rfl⟩
      have hBwd : Below W1.heap.size W1 wdb := by rw [← hwdb]; exact Below.drew (Below.refl _ _)
      rw [hwdb] at hHeld ⊢
      clear hwdb
      refine Tm 0 ?p0b ?v0b hHeld ?r0b
      simp only [Act.put, Pa, Pb, Pc]
      refine Tm 1 ?p1b ?v1b hHeld ?r1b
      simp only [Act.put, Pa, Pb, Pc]
      refine Tm 2 ?p2b ?v2b hHeld ?r2b
      simp only [Act.put, Pa, Pb, Pc]
      refine Tm 3 ?p3b ?v3b hHeld ?r3b
      simp only [Act.put, Pa, Pb, Pc]
      refine Tm 4 ?p4b ?v4b hHeld ?r4b
      simp only [Act.put, Pa, Pb, Pc]
      refine Tm 5 ?p5b ?v5b hHeld ?r5b
      simp only [Act.put, Pa, Pb, Pc]
      refine Tk 6 ?p6b ?v6b ?y6b hHeld ?r6b
      case y6b => intro wq hq; obtain ⟨⟨a0, a1⟩, z0, z2, z3, z4⟩ := HS.out wq hq; go_simp; try with_reducible rfl
      simp only [Act.put, Pa, Pb, Pc]
      refine Tm 7 ?p7b ?v7b hHeld ?r7b
      simp only [Act.put, Pa, Pb, Pc]
      refine Tm 8 ?p8b ?v8b hHeld ?r8b
      simp only [Act.put, Pa, Pb, Pc]
      refine Tm 9 ?p9b ?v9b hHeld ?r9b
      simp only [Act.put, Pa, Pb, Pc]
      refine Tk 10 ?p10b ?v10b ?y10b hHeld ?r10b
      case y10b => intro wq hq; obtain ⟨⟨a0, a1⟩, z0, z2, z3, z4⟩ := HS.out wq hq; go_simp; try with_reducible rfl
      simp only [Act.put, Pa, Pb, Pc]
      refine Tm 11 ?p11b ?v11b hHeld ?r11b
      simp only [Act.put, Pa, Pb, Pc]
      refine Tm 12 ?p12b ?v12b hHeld ?r12b
      simp only [Act.put, Pa, Pb, Pc]
      refine Tm 13 ?p13b ?v13b hHeld ?r13b
      simp only [Act.put, Pa, Pb, Pc]
      refine Tk 14 ?p14b ?v14b ?y14b hHeld ?r14b
      case y14b => intro wq hq; obtain ⟨⟨a0, a1⟩, z0, z2, z3, z4⟩ := HS.out wq hq; go_simp; try with_reducible rfl
      simp only [Act.put, Pa, Pb, Pc]
      refine Tm 15 ?p15b ?v15b hHeld ?r15b
      simp only [Act.put, Pa, Pb, Pc]
      refine Tm 16 ?p16b ?v16b hHeld ?r16b
      simp only [Act.put, Pa, Pb, Pc]
      refine Tm 17 ?p17b ?v17b hHeld ?r17b
      simp only [Act.put, Pa, Pb, Pc]
      refine Ts 18 ?p18b hHeld ?r18b
      simp only [Act.put, Pa, Pb, Pc]
      refine Ts 19 ?p19b hHeld ?r19b
      simp only [Act.put, Pa, Pb, Pc]
      refine Tm 20 ?p20b ?v20b hHeld ?r20b
      simp only [Act.put, Pa, Pb, Pc]
      refine Tm 21 ?p21b ?v21b hHeld ?r21b
      simp only [Act.put, Pa, Pb, Pc]
      refine Ts 22 ?p22b hHeld ?r22b
      simp only [Act.put, Pa, Pb, Pc]
      refine Ts 23 ?p23b hHeld ?r23b
      simp only [Act.put, Pa, Pb, Pc]
      refine Ts 24 ?p24b hHeld ?r24b
      simp only [Act.put, Pa, Pb, Pc]
      refine Ts 25 ?p25b hHeld ?r25b
      simp only [Act.put, Pa, Pb, Pc]
      refine Ts 26 ?p26b hHeld ?r26b
      simp only [Act.put, Pa, Pb, Pc]
      refine Ts 27 ?p27b hHeld ?r27b
      simp only [Act.put, Pa, Pb, Pc]
      refine Tm 28 ?p28b ?v28b hHeld ?r28b
      simp only [Act.put, Pa, Pb, Pc]
      refine Tm 29 ?p29b ?v29b hHeld ?r29b
      simp only [Act.put, Pa, Pb, Pc]
      refine Ts 30 ?p30b hHeld ?r30b
      simp only [Act.put, Pa, Pb, Pc]
      refine Ts 31 ?p31b hHeld ?r31b
      simp only [Act.put, Pa, Pb, Pc]
      refine Ts 32 ?p32b hHeld ?r32b
      simp only [Act.put, Pa, Pb, Pc]
      refine Ts 33 ?p33b hHeld ?r33b
      simp only [Act.put, Pa, Pb, Pc]
      refine Ts 34 ?p34b hHeld ?r34b
      simp only [Act.put, Pa, Pb, Pc]
      refine Ts 35 ?p35b hHeld ?r35b
      simp only [Act.put, Pa, Pb, Pc]
      refine Tm 36 ?p36b ?v36b hHeld ?r36b
      simp only [Act.put, Pa, Pb, Pc]
      refine wpAnyH_done (by kernel_rfl) ?_ _
      go_wp2
      go_ret
      exact HQ.out _ hHeld
    | true =>
      rw [hb] at hne
      by_cases h2 : k < 0
      · have d2 : decide (k < 0) = true := decide_eq_true h2
        have HQ := Hid_of (HNO.out (by rw [HPM.out, decide_eq_false (show ¬ 0 ≤ k by omega), Bool.and_false]; rfl))
        clear HNO HPM h0 e0 hb h2
        go_enter Try.func83, Try.ntmps83
        go_upto_region 1 with fail
        rw [HW1.out]
        clear HW1
        refine wp_region_held_drew (S := fun wq => Below (W1).heap.size (W1) wq) (by kernel_rfl) (Below.drew (Below.refl _ _)) (fun hHeld => ?_)
        obtain ⟨wdc, hwdc⟩ : ∃ wd, W1.drew = wd := ⟨_, rfl⟩
        have hBwd : Below W1.heap.size W1 wdc := by rw [← hwdc]; exact Below.drew (Below.refl _ _)
        rw [hwdc] at hHeld ⊢
        clear hwdc
        refine Tm 0 ?p0c ?v0c hHeld ?r0c
        simp only [Act.put, Pa, Pb, Pc]
        refine Tm 1 ?p1c ?v1c hHeld ?r1c
        simp only [Act.put, Pa, Pb, Pc]
        refine Tm 2 ?p2c ?v2c hHeld ?r2c
        simp only [Act.put, Pa, Pb, Pc]
        refine Tm 3 ?p3c ?v3c hHeld ?r3c
        simp only [Act.put, Pa, Pb, Pc]
        refine Tm 4 ?p4c ?v4c hHeld ?r4c
        simp only [Act.put, Pa, Pb, Pc]
        refine Tm 5 ?p5c ?v5c hHeld ?r5c
        simp only [Act.put, Pa, Pb, Pc]
        refine Tk 6 ?p6c ?v6c ?y6c hHeld ?r6c
        case y6c => intro wq hq; obtain ⟨⟨a0, a1⟩, z0, z2, z3, z4⟩ := HS.out wq hq; go_simp; try with_reducible rfl
        simp only [Act.put, Pa, Pb, Pc]
        refine Tm 7 ?p7c ?v7c hHeld ?r7c
        simp only [Act.put, Pa, Pb, Pc]
        refine Tm 8 ?p8c ?v8c hHeld ?r8c
        simp only [Act.put, Pa, Pb, Pc]
        refine Tm 9 ?p9c ?v9c hHeld ?r9c
        simp only [Act.put, Pa, Pb, Pc]
        refine Tk 10 ?p10c ?v10c ?y10c hHeld ?r10c
        case y10c => intro wq hq; obtain ⟨⟨a0, a1⟩, z0, z2, z3, z4⟩ := HS.out wq hq; go_simp; try with_reducible rfl
        simp only [Act.put, Pa, Pb, Pc]
        refine Tm 11 ?p11c ?v11c hHeld ?r11c
        simp only [Act.put, Pa, Pb, Pc]
        refine Tm 12 ?p12c ?v12c hHeld ?r12c
        simp only [Act.put, Pa, Pb, Pc]
        refine Tm 13 ?p13c ?v13c hHeld ?r13c
        simp only [Act.put, Pa, Pb, Pc]
        refine Tk 14 ?p14c ?v14c ?y14c hHeld ?r14c
        case y14c => intro wq hq; obtain ⟨⟨a0, a1⟩, z0, z2, z3, z4⟩ := HS.out wq hq; go_simp; try with_reducible rfl
        simp only [Act.put, Pa, Pb, Pc]
        refine Tm 15 ?p15c ?v15c hHeld ?r15c
        simp only [Act.put, Pa, Pb, Pc]
        refine Tm 16 ?p16c ?v16c hHeld ?r16c
        simp only [Act.put, Pa, Pb, Pc]
        refine Tm 17 ?p17c ?v17c hHeld ?r17c
        simp only [Act.put, Pa, Pb, Pc]
        refine Tm 18 ?p18c ?v18c hHeld ?r18c
        simp only [Act.put, Pa, Pb, Pc]
        refine Tm 19 ?p19c ?v19c hHeld ?r19c
        simp only [Act.put, Pa, Pb, Pc]
        refine Tm 20 ?p20c ?v20c hHeld ?r20c
        simp only [Act.put, Pa, Pb, Pc]
        refine Tm 21 ?p21c ?v21c hHeld ?r21c
        simp only [Act.put, Pa, Pb, Pc]
        refine Ts 22 ?p22c hHeld ?r22c
        simp only [Act.put, Pa, Pb, Pc]
        refine Ts 23 ?p23c hHeld ?r23c
        simp only [Act.put, Pa, Pb, Pc]
        refine Ts 24 ?p24c hHeld ?r24c
        simp only [Act.put, Pa, Pb, Pc]
        refine Ts 25 ?p25c hHeld ?r25c
        simp only [Act.put, Pa, Pb, Pc]
        refine Ts 26 ?p26c hHeld ?r26c
        simp only [Act.put, Pa, Pb, Pc]
        refine Ts 27 ?p27c hHeld ?r27c
        simp only [Act.put, Pa, Pb, Pc]
        refine Tm 28 ?p28c ?v28c hHeld ?r28c
        simp only [Act.put, Pa, Pb, Pc]
        refine Tm 29 ?p29c ?v29c hHeld ?r29c
        simp only [Act.put, Pa, Pb, Pc]
        refine Ts 30 ?p30c hHeld ?r30c
        simp only [Act.put, Pa, Pb, Pc]
        refine Ts 31 ?p31c hHeld ?r31c
        simp only [Act.put, Pa, Pb, Pc]
        refine Ts 32 ?p32c hHeld ?r32c
        simp only [Act.put, Pa, Pb, Pc]
        refine Ts 33 ?p33c hHeld ?r33c
        simp only [Act.put, Pa, Pb, Pc]
        refine Ts 34 ?p34c hHeld ?r34c
        simp only [Act.put, Pa, Pb, Pc]
        refine Ts 35 ?p35c hHeld ?r35c
        simp only [Act.put, Pa, Pb, Pc]
        refine Tm 36 ?p36c ?v36c hHeld ?r36c
        simp only [Act.put, Pa, Pb, Pc]
        refine wpAnyH_done (by kernel_rfl) ?_ _
        go_wp2
        go_ret
        exact HQ.out _ hHeld
      · have d2 : decide (k < 0) = false := decide_eq_false h2
        by_cases h3 : s.n ≤ k
        · have d3 : decide (s.n ≤ k) = true := decide_eq_true h3
          have HQ := Hid_of (HNO.out (by rw [HPM.out, decide_eq_false (show ¬ k < s.n by omega), Bool.and_false]; rfl))
          clear HNO HPM h0 e0 hb h2 h3
          go_enter Try.func83, Try.ntmps83
          go_upto_region 1 with fail
          rw [HW1.out]
          clear HW1
          refine wp_region_held_drew (S := fun wq => Below (W1).heap.size (W1) wq) (by kernel_rfl) (Below.drew (Below.refl _ _)) (fun hHeld => ?_)
          obtain ⟨wdd, hwdd⟩ : ∃ wd, W1.drew = wd := ⟨_, rfl⟩
          have hBwd : Below W1.heap.size W1 wdd := by rw [← hwdd]; exact Below.drew (Below.refl _ _)
          rw [hwdd] at hHeld ⊢
          clear hwdd
          refine Tm 0 ?p0d ?v0d hHeld ?r0d
          simp only [Act.put, Pa, Pb, Pc]
          refine Tm 1 ?p1d ?v1d hHeld ?r1d
          simp only [Act.put, Pa, Pb, Pc]
          refine Tm 2 ?p2d ?v2d hHeld ?r2d
          simp only [Act.put, Pa, Pb, Pc]
          refine Tm 3 ?p3d ?v3d hHeld ?r3d
          simp only [Act.put, Pa, Pb, Pc]
          refine Tm 4 ?p4d ?v4d hHeld ?r4d
          simp only [Act.put, Pa, Pb, Pc]
          refine Tm 5 ?p5d ?v5d hHeld ?r5d
          simp only [Act.put, Pa, Pb, Pc]
          refine Tk 6 ?p6d ?v6d ?y6d hHeld ?r6d
          case y6d => intro wq hq; obtain ⟨⟨a0, a1⟩, z0, z2, z3, z4⟩ := HS.out wq hq; go_simp; try with_reducible rfl
          simp only [Act.put, Pa, Pb, Pc]
          refine Tm 7 ?p7d ?v7d hHeld ?r7d
          simp only [Act.put, Pa, Pb, Pc]
          refine Tm 8 ?p8d ?v8d hHeld ?r8d
          simp only [Act.put, Pa, Pb, Pc]
          refine Tm 9 ?p9d ?v9d hHeld ?r9d
          simp only [Act.put, Pa, Pb, Pc]
          refine Tk 10 ?p10d ?v10d ?y10d hHeld ?r10d
          case y10d => intro wq hq; obtain ⟨⟨a0, a1⟩, z0, z2, z3, z4⟩ := HS.out wq hq; go_simp; try with_reducible rfl
          simp only [Act.put, Pa, Pb, Pc]
          refine Tm 11 ?p11d ?v11d hHeld ?r11d
          simp only [Act.put, Pa, Pb, Pc]
          refine Tm 12 ?p12d ?v12d hHeld ?r12d
          simp only [Act.put, Pa, Pb, Pc]
          refine Tm 13 ?p13d ?v13d hHeld ?r13d
          simp only [Act.put, Pa, Pb, Pc]
          refine Tk 14 ?p14d ?v14d ?y14d hHeld ?r14d
          case y14d => intro wq hq; obtain ⟨⟨a0, a1⟩, z0, z2, z3, z4⟩ := HS.out wq hq; go_simp; try with_reducible rfl
          simp only [Act.put, Pa, Pb, Pc]
          refine Tm 15 ?p15d ?v15d hHeld ?r15d
          simp only [Act.put, Pa, Pb, Pc]
          refine Tm 16 ?p16d ?v16d hHeld ?r16d
          simp only [Act.put, Pa, Pb, Pc]
          refine Tm 17 ?p17d ?v17d hHeld ?r17d
          simp only [Act.put, Pa, Pb, Pc]
          refine Tm 18 ?p18d ?v18d hHeld ?r18d
          simp only [Act.put, Pa, Pb, Pc]
          refine Tm 19 ?p19d ?v19d hHeld ?r19d
          simp only [Act.put, Pa, Pb, Pc]
          refine Tm 20 ?p20d ?v20d hHeld ?r20d
          simp only [Act.put, Pa, Pb, Pc]
          refine Tm 21 ?p21d ?v21d hHeld ?r21d
          simp only [Act.put, Pa, Pb, Pc]
          refine Tm 22 ?p22d ?v22d hHeld ?r22d
          simp only [Act.put, Pa, Pb, Pc]
          refine Tm 23 ?p23d ?v23d hHeld ?r23d
          simp only [Act.put, Pa, Pb, Pc]
          refine Tm 24 ?p24d ?v24d hHeld ?r24d
          simp only [Act.put, Pa, Pb, Pc]
          refine Tm 25 ?p25d ?v25d hHeld ?r25d
          simp only [Act.put, Pa, Pb, Pc]
          refine Tk 26 ?p26d ?v26d ?y26d hHeld ?r26d
          case y26d => intro wq hq; obtain ⟨⟨a0, a1⟩, z0, z2, z3, z4⟩ := HS.out wq hq; go_simp; try with_reducible rfl
          simp only [Act.put, Pa, Pb, Pc]
          refine Tm 27 ?p27d ?v27d hHeld ?r27d
          simp only [Act.put, Pa, Pb, Pc]
          refine Tm 28 ?p28d ?v28d hHeld ?r28d
          simp only [Act.put, Pa, Pb, Pc]
          refine Tm 29 ?p29d ?v29d hHeld ?r29d
          simp only [Act.put, Pa, Pb, Pc]
          refine Ts 30 ?p30d hHeld ?r30d
          simp only [Act.put, Pa, Pb, Pc]
          refine Ts 31 ?p31d hHeld ?r31d
          simp only [Act.put, Pa, Pb, Pc]
          refine Ts 32 ?p32d hHeld ?r32d
          simp only [Act.put, Pa, Pb, Pc]
          refine Ts 33 ?p33d hHeld ?r33d
          simp only [Act.put, Pa, Pb, Pc]
          refine Ts 34 ?p34d hHeld ?r34d
          simp only [Act.put, Pa, Pb, Pc]
          refine Ts 35 ?p35d hHeld ?r35d
          simp only [Act.put, Pa, Pb, Pc]
          refine Tm 36 ?p36d ?v36d hHeld ?r36d
          simp only [Act.put, Pa, Pb, Pc]
          refine wpAnyH_done (by kernel_rfl) ?_ _
          go_wp2
          go_ret
          exact HQ.out _ hHeld
        · have d3 : decide (s.n ≤ k) = false := decide_eq_false h3
          obtain ⟨j, rfl⟩ : ∃ j : Nat, k = j := ⟨k.toNat, by omega⟩
          have hj7 : j < 7 := by omega
          have hji : (j : Int) < 7 := by omega
          have HSW : Hid (∀ w', Below W1.heap.size W1 w' → (w'.cell? ⟨w.heap.size, 0, none⟩ = some (.int .i64 x.i) ∧ w'.cell? ⟨w.heap.size, 1, none⟩ = some (.int .i64 x.t)) ∧ w'.cell? ⟨b, 0, none⟩ = some (.int .i64 s.n) ∧ w'.cell? ⟨b, 2, none⟩ = some (.int .i64 s.st) ∧ w'.cell? ⟨b, 3, none⟩ = some (.int .i64 s.b.i) ∧ w'.cell? ⟨b, 4, none⟩ = some (.int .i64 s.b.t) ∧ w'.cell? ⟨b, 6 + j, none⟩ = some (.bool (s.who j))) := fun w' hw' =>
            have hh := HS.out w' hw'
            ⟨hh.1, hh.2.1, hh.2.2.1, hh.2.2.2.1, hh.2.2.2.2, whoCell (HP1.out.keep hw').row j hj7⟩
          rw [Int.toNat_natCast] at HPM
          have HE1 := Hid_of h0
          cases hw : s.who j with
          | true =>
            have HQ := Hid_of (HNO.out (by rw [HPM.out, hw, Bool.not_true, Bool.and_false]))
            rw [hw] at HSW
            clear HNO HPM h0 e0 hb h2 h3 hw
            go_enter Try.func83, Try.ntmps83
            go_upto_region 1 with fail
            rw [HW1.out]
            clear HW1
            refine wp_region_held_drew (S := fun wq => Below (W1).heap.size (W1) wq) (by kernel_rfl) (Below.drew (Below.refl _ _)) (fun hHeld => ?_)
            obtain ⟨wde, hwde⟩ : ∃ wd, W1.drew = wd := ⟨_, rfl⟩
            have hBwd : Below W1.heap.size W1 wde := by rw [← hwde]; exact Below.drew (Below.refl _ _)
            rw [hwde] at hHeld ⊢
            clear hwde
            refine Tm 0 ?p0e ?v0e hHeld ?r0e
            simp only [Act.put, Pa, Pb, Pc]
            refine Tm 1 ?p1e ?v1e hHeld ?r1e
            simp only [Act.put, Pa, Pb, Pc]
            refine Tm 2 ?p2e ?v2e hHeld ?r2e
            simp only [Act.put, Pa, Pb, Pc]
            refine Tm 3 ?p3e ?v3e hHeld ?r3e
            simp only [Act.put, Pa, Pb, Pc]
            refine Tm 4 ?p4e ?v4e hHeld ?r4e
            simp only [Act.put, Pa, Pb, Pc]
            refine Tm 5 ?p5e ?v5e hHeld ?r5e
            simp only [Act.put, Pa, Pb, Pc]
            refine Tk 6 ?p6e ?v6e ?y6e hHeld ?r6e
            case y6e => intro wq hq; obtain ⟨⟨a0, a1⟩, z0, z2, z3, z4, zw⟩ := HSW.out wq hq; go_simp; try with_reducible rfl
            simp only [Act.put, Pa, Pb, Pc]
            refine Tm 7 ?p7e ?v7e hHeld ?r7e
            simp only [Act.put, Pa, Pb, Pc]
            refine Tm 8 ?p8e ?v8e hHeld ?r8e
            simp only [Act.put, Pa, Pb, Pc]
            refine Tm 9 ?p9e ?v9e hHeld ?r9e
            simp only [Act.put, Pa, Pb, Pc]
            refine Tk 10 ?p10e ?v10e ?y10e hHeld ?r10e
            case y10e => intro wq hq; obtain ⟨⟨a0, a1⟩, z0, z2, z3, z4, zw⟩ := HSW.out wq hq; go_simp; try with_reducible rfl
            simp only [Act.put, Pa, Pb, Pc]
            refine Tm 11 ?p11e ?v11e hHeld ?r11e
            simp only [Act.put, Pa, Pb, Pc]
            refine Tm 12 ?p12e ?v12e hHeld ?r12e
            simp only [Act.put, Pa, Pb, Pc]
            refine Tm 13 ?p13e ?v13e hHeld ?r13e
            simp only [Act.put, Pa, Pb, Pc]
            refine Tk 14 ?p14e ?v14e ?y14e hHeld ?r14e
            case y14e => intro wq hq; obtain ⟨⟨a0, a1⟩, z0, z2, z3, z4, zw⟩ := HSW.out wq hq; go_simp; try with_reducible rfl
            simp only [Act.put, Pa, Pb, Pc]
            refine Tm 15 ?p15e ?v15e hHeld ?r15e
            simp only [Act.put, Pa, Pb, Pc]
            refine Tm 16 ?p16e ?v16e hHeld ?r16e
            simp only [Act.put, Pa, Pb, Pc]
            refine Tm 17 ?p17e ?v17e hHeld ?r17e
            simp only [Act.put, Pa, Pb, Pc]
            refine Tm 18 ?p18e ?v18e hHeld ?r18e
            simp only [Act.put, Pa, Pb, Pc]
            refine Tm 19 ?p19e ?v19e hHeld ?r19e
            simp only [Act.put, Pa, Pb, Pc]
            refine Tm 20 ?p20e ?v20e hHeld ?r20e
            simp only [Act.put, Pa, Pb, Pc]
            refine Tm 21 ?p21e ?v21e hHeld ?r21e
            simp only [Act.put, Pa, Pb, Pc]
            refine Tm 22 ?p22e ?v22e hHeld ?r22e
            simp only [Act.put, Pa, Pb, Pc]
            refine Tm 23 ?p23e ?v23e hHeld ?r23e
            simp only [Act.put, Pa, Pb, Pc]
            refine Tm 24 ?p24e ?v24e hHeld ?r24e
            simp only [Act.put, Pa, Pb, Pc]
            refine Tm 25 ?p25e ?v25e hHeld ?r25e
            simp only [Act.put, Pa, Pb, Pc]
            refine Tk 26 ?p26e ?v26e ?y26e hHeld ?r26e
            case y26e => intro wq hq; obtain ⟨⟨a0, a1⟩, z0, z2, z3, z4, zw⟩ := HSW.out wq hq; go_simp; try with_reducible rfl
            simp only [Act.put, Pa, Pb, Pc]
            refine Tm 27 ?p27e ?v27e hHeld ?r27e
            simp only [Act.put, Pa, Pb, Pc]
            refine Tm 28 ?p28e ?v28e hHeld ?r28e
            simp only [Act.put, Pa, Pb, Pc]
            refine Tm 29 ?p29e ?v29e hHeld ?r29e
            simp only [Act.put, Pa, Pb, Pc]
            refine Tm 30 ?p30e ?v30e hHeld ?r30e
            simp only [Act.put, Pa, Pb, Pc]
            refine Tm 31 ?p31e ?v31e hHeld ?r31e
            simp only [Act.put, Pa, Pb, Pc]
            refine Tm 32 ?p32e ?v32e hHeld ?r32e
            simp only [Act.put, Pa, Pb, Pc]
            refine Tm 33 ?p33e ?v33e hHeld ?r33e
            simp only [Act.put, Pa, Pb, Pc]
            refine Tm 34 ?p34e ?v34e hHeld ?r34e
            simp only [Act.put, Pa, Pb, Pc]
            refine Tk 35 ?p35e ?v35e ?y35e hHeld ?r35e
            case y35e => intro wq hq; obtain ⟨⟨a0, a1⟩, z0, z2, z3, z4, zw⟩ := HSW.out wq hq; go_simp; try with_reducible rfl
            simp only [Act.put, Pa, Pb, Pc]
            refine Tm 36 ?p36e ?v36e hHeld ?r36e
            simp only [Act.put, Pa, Pb, Pc]
            refine wpAnyH_done (by kernel_rfl) ?_ _
            go_wp2
            go_ret
            exact HQ.out _ hHeld
          | false =>
            have HPM : Hid (M.prm s j x = true) := Hid_of (by rw [HPM.out, hb, hw, e0, decide_eq_true (show (0 : Int) ≤ (j : Int) by omega), decide_eq_true (show (j : Int) < s.n by omega)]; rfl)
            rw [hw] at HSW
            obtain ⟨s1, HS1⟩ : ∃ s1, Hid ({ s with who := M.wset s.who j } = s1) := ⟨_, Hid_of rfl⟩
            have HOK1 : Hid (M.Ok s1) := Hid_of (by rw [← HS1.out]; exact ok.who _)
            clear HNO h0 e0 hb h2 h3 hw
            go_enter Try.func83, Try.ntmps83
            go_upto_region 1 with fail
            rw [HW1.out]
            clear HW1
            refine wp_region_held_drew (S := fun wq => Below (W1).heap.size (W1) wq) (by kernel_rfl) (Below.drew (Below.refl _ _)) (fun hHeld => ?_)
            obtain ⟨wdf, hwdf⟩ : ∃ wd, W1.drew = wd := ⟨_, rfl⟩
            have hBwd : Below W1.heap.size W1 wdf := by rw [← hwdf]; exact Below.drew (Below.refl _ _)
            rw [hwdf] at hHeld ⊢
            clear hwdf
            refine Tm 0 ?p0f ?v0f hHeld ?r0f
            simp only [Act.put, Pa, Pb, Pc]
            refine Tm 1 ?p1f ?v1f hHeld ?r1f
            simp only [Act.put, Pa, Pb, Pc]
            refine Tm 2 ?p2f ?v2f hHeld ?r2f
            simp only [Act.put, Pa, Pb, Pc]
            refine Tm 3 ?p3f ?v3f hHeld ?r3f
            simp only [Act.put, Pa, Pb, Pc]
            refine Tm 4 ?p4f ?v4f hHeld ?r4f
            simp only [Act.put, Pa, Pb, Pc]
            refine Tm 5 ?p5f ?v5f hHeld ?r5f
            simp only [Act.put, Pa, Pb, Pc]
            refine Tk 6 ?p6f ?v6f ?y6f hHeld ?r6f
            case y6f => intro wq hq; obtain ⟨⟨a0, a1⟩, z0, z2, z3, z4, zw⟩ := HSW.out wq hq; go_simp; try with_reducible rfl
            simp only [Act.put, Pa, Pb, Pc]
            refine Tm 7 ?p7f ?v7f hHeld ?r7f
            simp only [Act.put, Pa, Pb, Pc]
            refine Tm 8 ?p8f ?v8f hHeld ?r8f
            simp only [Act.put, Pa, Pb, Pc]
            refine Tm 9 ?p9f ?v9f hHeld ?r9f
            simp only [Act.put, Pa, Pb, Pc]
            refine Tk 10 ?p10f ?v10f ?y10f hHeld ?r10f
            case y10f => intro wq hq; obtain ⟨⟨a0, a1⟩, z0, z2, z3, z4, zw⟩ := HSW.out wq hq; go_simp; try with_reducible rfl
            simp only [Act.put, Pa, Pb, Pc]
            refine Tm 11 ?p11f ?v11f hHeld ?r11f
            simp only [Act.put, Pa, Pb, Pc]
            refine Tm 12 ?p12f ?v12f hHeld ?r12f
            simp only [Act.put, Pa, Pb, Pc]
            refine Tm 13 ?p13f ?v13f hHeld ?r13f
            simp only [Act.put, Pa, Pb, Pc]
            refine Tk 14 ?p14f ?v14f ?y14f hHeld ?r14f
            case y14f => intro wq hq; obtain ⟨⟨a0, a1⟩, z0, z2, z3, z4, zw⟩ := HSW.out wq hq; go_simp; try with_reducible rfl
            simp only [Act.put, Pa, Pb, Pc]
            refine Tm 15 ?p15f ?v15f hHeld ?r15f
            simp only [Act.put, Pa, Pb, Pc]
            refine Tm 16 ?p16f ?v16f hHeld ?r16f
            simp only [Act.put, Pa, Pb, Pc]
            refine Tm 17 ?p17f ?v17f hHeld ?r17f
            simp only [Act.put, Pa, Pb, Pc]
            refine Tm 18 ?p18f ?v18f hHeld ?r18f
            simp only [Act.put, Pa, Pb, Pc]
            refine Tm 19 ?p19f ?v19f hHeld ?r19f
            simp only [Act.put, Pa, Pb, Pc]
            refine Tm 20 ?p20f ?v20f hHeld ?r20f
            simp only [Act.put, Pa, Pb, Pc]
            refine Tm 21 ?p21f ?v21f hHeld ?r21f
            simp only [Act.put, Pa, Pb, Pc]
            refine Tm 22 ?p22f ?v22f hHeld ?r22f
            simp only [Act.put, Pa, Pb, Pc]
            refine Tm 23 ?p23f ?v23f hHeld ?r23f
            simp only [Act.put, Pa, Pb, Pc]
            refine Tm 24 ?p24f ?v24f hHeld ?r24f
            simp only [Act.put, Pa, Pb, Pc]
            refine Tm 25 ?p25f ?v25f hHeld ?r25f
            simp only [Act.put, Pa, Pb, Pc]
            refine Tk 26 ?p26f ?v26f ?y26f hHeld ?r26f
            case y26f => intro wq hq; obtain ⟨⟨a0, a1⟩, z0, z2, z3, z4, zw⟩ := HSW.out wq hq; go_simp; try with_reducible rfl
            simp only [Act.put, Pa, Pb, Pc]
            refine Tm 27 ?p27f ?v27f hHeld ?r27f
            simp only [Act.put, Pa, Pb, Pc]
            refine Tm 28 ?p28f ?v28f hHeld ?r28f
            simp only [Act.put, Pa, Pb, Pc]
            refine Tm 29 ?p29f ?v29f hHeld ?r29f
            simp only [Act.put, Pa, Pb, Pc]
            refine Tm 30 ?p30f ?v30f hHeld ?r30f
            simp only [Act.put, Pa, Pb, Pc]
            refine Tm 31 ?p31f ?v31f hHeld ?r31f
            simp only [Act.put, Pa, Pb, Pc]
            refine Tm 32 ?p32f ?v32f hHeld ?r32f
            simp only [Act.put, Pa, Pb, Pc]
            refine Tm 33 ?p33f ?v33f hHeld ?r33f
            simp only [Act.put, Pa, Pb, Pc]
            refine Tm 34 ?p34f ?v34f hHeld ?r34f
            simp only [Act.put, Pa, Pb, Pc]
            refine Tk 35 ?p35f ?v35f ?y35f hHeld ?r35f
            case y35f => intro wq hq; obtain ⟨⟨a0, a1⟩, z0, z2, z3, z4, zw⟩ := HSW.out wq hq; go_simp; try with_reducible rfl
            simp only [Act.put, Pa, Pb, Pc]
            refine Tm 36 ?p36f ?v36f hHeld ?r36f
            simp only [Act.put, Pa, Pb, Pc]
            refine wpAnyH_done (by kernel_rfl) ?_ _
            have h1d := HP1.out.keep hHeld
            have hjj : decide ((j : Int) < 0) = false := decide_eq_false (by omega)
            obtain ⟨⟨c0, c1, c2, c3, c4, c5, c6, c7, c8, c9, c10, c11, c12, c13, c14, c15⟩, cf⟩ := row16 (h1d.row)
            have fj := cf (6 + j)
            have cj := whoCell h1d.row j hj7
            have h2 : PI (wdf.setCell ⟨b, 6 + j, none⟩ (.bool true)) base b mv s1 := h1d.cell (6 + j) _ (by rw [← HS1.out]; exact prow_who s mv j hj7) (by rw [← HS1.out]) (by rw [← HS1.out])
            have hf2 : Fr w (fpp b mv) (wdf.setCell ⟨b, 6 + j, none⟩ (.bool true)) (fpp b mv) := fr_set (Fr.ofBelow (bel_up HB1.out hHeld (Nat.le_refl _))) (.inl rfl) (6 + j) _
            obtain ⟨W2, HW2⟩ : ∃ W2, Hid (wdf.setCell ⟨b, 6 + j, none⟩ (.bool true) = W2) := ⟨_, Hid_of rfl⟩
            rw [HW2.out] at h2 hf2
            have HP2 := Hid_of h2
            have HF2 := Hid_of hf2
            clear h1d h2 hf2 cf c0 c1 c2 c3 c4 c5 c6 c7 c8 c9 c10 c11 c12 c13 c14 c15 hHeld hBwd HS HSW
            go_upto_region 4 with fail
            rw [HW2.out]
            clear HW2 fj cj
            go_wp2_with fail
            go_loopw [55] (fun i wr => ∃ q : Nat, q ≤ l.length ∧ i = .int .i64 q ∧ ∃ mv', PI wr base b mv' (M.cntL s1 (l.take q)) ∧ Fr w (fpp b mv) wr (fpp b mv')) (fun i _ => l.length - (intOf i).toNat)
            case atStart => exact ⟨0, by omega, rfl, mv, by rw [List.take_zero]; exact HP2.out, HF2.out⟩
            case round =>
              obtain ⟨q, hq, rfl, mv', hpr, hfr⟩ := hrel
              by_cases hlt : q < l.length
              · have hqi : (q : Int) < (l.length : Int) := by omega
                have hat' : AtL vl wr a l := HAT.out.keepBut (fun k hk hb => hfr.block k hk (HAP.out (by omega) k hb))
                obtain ⟨ba, oa, rfl, x0, x1, x2, x3⟩ := hat'.getV q hlt
                have HT := Hid_of (M.cntL_take s1 l q hlt)
                have hcq : (M.cntL s1 (l.take q)).c < 1000000 := by
                  have h1 := (M.cntL_keep (l.take q) s1).2.2.2.2.2.2
                  have h2 : s1.c = s.c := by rw [← HS1.out]
                  rw [List.length_take] at h1
                  omega
                have okq := HOK1.out.cntL (l.take q)
                obtain ⟨v, HV⟩ : ∃ v, Hid (l[q] = v) := ⟨_, Hid_of rfl⟩
                rw [HV.out] at x0 x1 x2 x3 HT
                obtain ⟨W5, HW5⟩ : ∃ W5, Hid (wr.alloc (.cells #[.int .i64 v.s, .int .i64 v.b.i, .int .i64 v.b.t, .string v.v] 84) = W5) := ⟨_, Hid_of rfl⟩
                have hb5 : Below wr.heap.size wr W5 := by rw [← HW5.out]; exact bel1 wr _
                have hr5 : W5.heap[wr.heap.size]? = some (.cells #[.int .i64 v.s, .int .i64 v.b.i, .int .i64 v.b.t, .string v.v] 84 (0, 0)) := by rw [← HW5.out]; exact heap_alloc_last wr _
                obtain ⟨⟨y0, y1, y2, y3⟩, -⟩ := row4 hr5
                have cc := count_any (hpr.keep hb5) okq hcq v
                have HF5 := Hid_of (hfr.up hb5)
                clear hpr hfr hat' hb5 hr5 okq hcq HV
                go_upto_region 7 with fail
                rw [HW5.out]
                clear HW5 x0 x1 x2 x3
                go_wp2_with fail
                refine cc.mono ?_
                clear cc
                rintro e w6 ⟨mv6, rfl, h6, hf6⟩
                have HP6 := Hid_of h6
                have HF6 := Hid_of (HF5.out.trans hf6)
                clear h6 hf6
                go_wp2
                go_roundw
                case rel => exact ⟨q + 1, by omega, by go_num, mv6, by rw [HT.out]; exact HP6.out, HF6.out⟩
                case measure => simp [intOf]; omega
              · obtain rfl : q = l.length := by omega
                rw [List.take_of_length_le (Nat.le_refl _)] at hpr
                have HPr := Hid_of hpr
                have HFr := Hid_of hfr
                obtain ⟨s2, HS2⟩ : ∃ s2, Hid (M.cntL s1 l = s2) := ⟨_, Hid_of rfl⟩
                rw [HS2.out] at HPr
                have HN2 : Hid (s2.n = s.n) := Hid_of (by rw [← HS2.out, (M.cntL_keep l s1).1, ← HS1.out])
                have HW2 : Hid (s2.who = M.wset s.who j) := Hid_of (by rw [← HS2.out, (M.cntL_keep l s1).2.2.2.2.2.1, ← HS1.out])
                have HS9 : Hid (∀ wq, Below wr.heap.size wr wq → wq.cell? ⟨b, 0, none⟩ = some (.int .i64 s2.n)) := fun wq hq => (row16 (HPr.out.keep hq).row).1.1
                have cQ := quorum_any s2.n
                obtain ⟨qn, HQN⟩ : ∃ qn, Hid (M.quo s2.n = qn) := ⟨_, Hid_of rfl⟩
                rw [HQN.out] at cQ
                clear hpr hfr hlt hq HAT
                by_cases hge : qn ≤ ((M.wcnt s2.who 7 : Nat) : Int)
                · have dge : decide (((M.wcnt s2.who 7 : Nat) : Int) < qn) = false := decide_eq_false (by omega)
                  have HE : Hid (M.enough s j = true) := Hid_of (by unfold M.enough; rw [← HN2.out, HQN.out, Int.toNat_natCast, ← HW2.out]; exact decide_eq_true hge)
                  clear hge
                  go_upto_region 9 with fail
                  refine wp_region_held_drew (S := fun wq => Below (wr).heap.size (wr) wq) (by kernel_rfl) (Below.drew (Below.refl _ _)) (fun hHeld => ?_)
                  obtain ⟨wdf9, hwdf9⟩ : ∃ wd, wr.drew = wd := ⟨_, rfl⟩
                  have hBwd : Below wr.heap.size wr wdf9 := by rw [← hwdf9]; exact Below.drew (Below.refl _ _)
                  rw [hwdf9] at hHeld ⊢
                  clear hwdf9
                  have h9 := HPr.out.keep hBwd
                  have cP := promises_any h9
                  refine Tm 0 ?p0f9 ?v0f9 hHeld ?r0f9
                  refine Tm 2 ?p2f9 ?v2f9 hHeld ?r2f9
                  refine Tm 3 ?p3f9 ?v3f9 hHeld ?r3f9
                  refine Tm 4 ?p4f9 ?v4f9 hHeld ?r4f9
                  refine Tk 5 ?p5f9 ?v5f9 ?y5f9 hHeld ?r5f9
                  case y5f9 => intro wq hq; obtain a0 := HS9.out wq hq; go_simp; try with_reducible rfl
                  simp only [Act.put, Pa, Pb, Pc]
                  refine Rd 1 ?p1f9 ?s1f9
                  intro K hK
                  go_simp
                  refine cP.mono ?_
                  rintro e v1 ⟨rfl, hq1⟩
                  obtain rfl := hq1.symm
                  clear hq1
                  refine hK.out _ _ hHeld (fun hHeld => ?_)
                  clear hK K
                  refine Rd 6 ?p6f9_1 ?s6f9_1
                  intro K hK
                  go_simp
                  refine (cQ _).mono ?_
                  rintro e v6 ⟨rfl, hq6⟩
                  obtain rfl := hq6.symm
                  clear hq6
                  refine hK.out _ _ hHeld (fun hHeld => ?_)
                  clear hK K
                  refine Tm 7 ?p7f9_1_6 ?v7f9_1_6 hHeld ?r7f9_1_6
                  simp only [Act.put, Pa, Pb, Pc]
                  refine wpAnyH_done (by kernel_rfl) ?_ _
                  have h9s : PI (wdf9.setCell ⟨b, 2, none⟩ (.int .i64 2)) base b mv' { s2 with st := 2 } := h9.cell 2 _ rfl rfl rfl
                  have HF9 : Hid (Fr w (fpp b mv) (wdf9.setCell ⟨b, 2, none⟩ (.int .i64 2)) (fpp b mv')) := Hid_of ((HFr.out.up hHeld).trans (fr_cell 2 _))
                  obtain ⟨⟨c0, c1, c2, c3, c4, c5, c6, c7, c8, c9, c10, c11, c12, c13, c14, c15⟩, cf⟩ := row16 h9.row
                  have f2 := cf 2
                  have HP9 := Hid_of h9s
                  clear h9 h9s cf hHeld hBwd HS9 cP cQ
                  go_wp2
                  go_ret
                  exact ⟨mv', by unfold M.prb; rw [HPM.out, HE.out]; rfl, by unfold M.prs; rw [HPM.out, HE.out, Int.toNat_natCast, if_pos rfl, if_pos rfl, HS1.out, HS2.out]; exact HP9.out, HF9.out⟩
                · have dge : decide (((M.wcnt s2.who 7 : Nat) : Int) < qn) = true := decide_eq_true (by omega)
                  have HE : Hid (M.enough s j = false) := Hid_of (by unfold M.enough; rw [← HN2.out, HQN.out, Int.toNat_natCast, ← HW2.out]; exact decide_eq_false hge)
                  clear hge
                  go_upto_region 9 with fail
                  refine wp_region_held_drew (S := fun wq => Below (wr).heap.size (wr) wq) (by kernel_rfl) (Below.drew (Below.refl _ _)) (fun hHeld => ?_)
                  obtain ⟨wdf8, hwdf8⟩ : ∃ wd, wr.drew = wd := ⟨_, rfl⟩
                  have hBwd : Below wr.heap.size wr wdf8 := by rw [← hwdf8]; exact Below.drew (Below.refl _ _)
                  rw [hwdf8] at hHeld ⊢
                  clear hwdf8
                  have h9 := HPr.out.keep hBwd
                  have cP := promises_any h9
                  refine Tm 0 ?p0f8 ?v0f8 hHeld ?r0f8
                  refine Tm 2 ?p2f8 ?v2f8 hHeld ?r2f8
                  refine Tm 3 ?p3f8 ?v3f8 hHeld ?r3f8
                  refine Tm 4 ?p4f8 ?v4f8 hHeld ?r4f8
                  refine Tk 5 ?p5f8 ?v5f8 ?y5f8 hHeld ?r5f8
                  case y5f8 => intro wq hq; obtain a0 := HS9.out wq hq; go_simp; try with_reducible rfl
                  simp only [Act.put, Pa, Pb, Pc]
                  refine Rd 1 ?p1f8 ?s1f8
                  intro K hK
                  go_simp
                  refine cP.mono ?_
                  rintro e v1 ⟨rfl, hq1⟩
                  obtain rfl := hq1.symm
                  clear hq1
                  refine hK.out _ _ hHeld (fun hHeld => ?_)
                  clear hK K
                  refine Rd 6 ?p6f8_1 ?s6f8_1
                  intro K hK
                  go_simp
                  refine (cQ _).mono ?_
                  rintro e v6 ⟨rfl, hq6⟩
                  obtain rfl := hq6.symm
                  clear hq6
                  refine hK.out _ _ hHeld (fun hHeld => ?_)
                  clear hK K
                  refine Tm 7 ?p7f8_1_6 ?v7f8_1_6 hHeld ?r7f8_1_6
                  simp only [Act.put, Pa, Pb, Pc]
                  refine wpAnyH_done (by kernel_rfl) ?_ _
                  have HP9 := Hid_of h9
                  have HF9 := Hid_of (HFr.out.up hHeld)
                  clear h9 hHeld hBwd HS9 cP cQ
                  go_wp2
                  go_ret
                  exact ⟨mv', by unfold M.prb; rw [HPM.out, HE.out]; rfl, by unfold M.prs; rw [HPM.out, HE.out, Int.toNat_natCast, if_pos rfl, if_neg (by simp), HS1.out, HS2.out]; exact HP9.out, HF9.out⟩
  · have d0 : (s.st != 1) = true := by simpa using h0
    have HQ := Hid_of (HNO.out (by rw [HPM.out, decide_eq_false h0]; rfl))
    clear HNO HPM h0
    go_enter Try.func83, Try.ntmps83
    go_upto_region 1 with fail
    rw [HW1.out]
    clear HW1
    refine wp_region_held_drew (S := fun wq => Below (W1).heap.size (W1) wq) (by kernel_rfl) (Below.drew (Below.refl _ _)) (fun hHeld => ?_)
    obtain ⟨wda, hwda⟩ : ∃ wd, W1.drew = wd := ⟨_, rfl⟩
    have hBwd : Below W1.heap.size W1 wda := by rw [← hwda]; exact Below.drew (Below.refl _ _)
    rw [hwda] at hHeld ⊢
    clear hwda
    refine Tm 0 ?p0a ?v0a hHeld ?r0a
    simp only [Act.put, Pa, Pb, Pc]
    refine Tm 1 ?p1a ?v1a hHeld ?r1a
    simp only [Act.put, Pa, Pb, Pc]
    refine Tm 2 ?p2a ?v2a hHeld ?r2a
    simp only [Act.put, Pa, Pb, Pc]
    refine Tm 3 ?p3a ?v3a hHeld ?r3a
    simp only [Act.put, Pa, Pb, Pc]
    refine Tm 4 ?p4a ?v4a hHeld ?r4a
    simp only [Act.put, Pa, Pb, Pc]
    refine Tm 5 ?p5a ?v5a hHeld ?r5a
    simp only [Act.put, Pa, Pb, Pc]
    refine Tk 6 ?p6a ?v6a ?y6a hHeld ?r6a
    case y6a => intro wq hq; obtain ⟨⟨a0, a1⟩, z0, z2, z3, z4⟩ := HS.out wq hq; go_simp; try with_reducible rfl
    simp only [Act.put, Pa, Pb, Pc]
    refine Tm 7 ?p7a ?v7a hHeld ?r7a
    simp only [Act.put, Pa, Pb, Pc]
    refine Tm 8 ?p8a ?v8a hHeld ?r8a
    simp only [Act.put, Pa, Pb, Pc]
    refine Tm 9 ?p9a ?v9a hHeld ?r9a
    simp only [Act.put, Pa, Pb, Pc]
    refine Ts 10 ?p10a hHeld ?r10a
    simp only [Act.put, Pa, Pb, Pc]
    refine Ts 11 ?p11a hHeld ?r11a
    simp only [Act.put, Pa, Pb, Pc]
    refine Ts 12 ?p12a hHeld ?r12a
    simp only [Act.put, Pa, Pb, Pc]
    refine Ts 13 ?p13a hHeld ?r13a
    simp only [Act.put, Pa, Pb, Pc]
    refine Ts 14 ?p14a hHeld ?r14a
    simp only [Act.put, Pa, Pb, Pc]
    refine Ts 15 ?p15a hHeld ?r15a
    simp only [Act.put, Pa, Pb, Pc]
    refine Tm 16 ?p16a ?v16a hHeld ?r16a
    simp only [Act.put, Pa, Pb, Pc]
    refine Tm 17 ?p17a ?v17a hHeld ?r17a
    simp only [Act.put, Pa, Pb, Pc]
    refine Ts 18 ?p18a hHeld ?r18a
    simp only [Act.put, Pa, Pb, Pc]
    refine Ts 19 ?p19a hHeld ?r19a
    simp only [Act.put, Pa, Pb, Pc]
    refine Tm 20 ?p20a ?v20a hHeld ?r20a
    simp only [Act.put, Pa, Pb, Pc]
    refine Tm 21 ?p21a ?v21a hHeld ?r21a
    simp only [Act.put, Pa, Pb, Pc]
    refine Ts 22 ?p22a hHeld ?r22a
    simp only [Act.put, Pa, Pb, Pc]
    refine Ts 23 ?p23a hHeld ?r23a
    simp only [Act.put, Pa, Pb, Pc]
    refine Ts 24 ?p24a hHeld ?r24a
    simp only [Act.put, Pa, Pb, Pc]
    refine Ts 25 ?p25a hHeld ?r25a
    simp only [Act.put, Pa, Pb, Pc]
    refine Ts 26 ?p26a hHeld ?r26a
    simp only [Act.put, Pa, Pb, Pc]
    refine Ts 27 ?p27a hHeld ?r27a
    simp only [Act.put, Pa, Pb, Pc]
    refine Tm 28 ?p28a ?v28a hHeld ?r28a
    simp only [Act.put, Pa, Pb, Pc]
    refine Tm 29 ?p29a ?v29a hHeld ?r29a
    simp only [Act.put, Pa, Pb, Pc]
    refine Ts 30 ?p30a hHeld ?r30a
    simp only [Act.put, Pa, Pb, Pc]
    refine Ts 31 ?p31a hHeld ?r31a
    simp only [Act.put, Pa, Pb, Pc]
    refine Ts 32 ?p32a hHeld ?r32a
    simp only [Act.put, Pa, Pb, Pc]
    refine Ts 33 ?p33a hHeld ?r33a
    simp only [Act.put, Pa, Pb, Pc]
    refine Ts 34 ?p34a hHeld ?r34a
    simp only [Act.put, Pa, Pb, Pc]
    refine Ts 35 ?p35a hHeld ?r35a
    simp only [Act.put, Pa, Pb, Pc]
    refine Tm 36 ?p36a ?v36a hHeld ?r36a
    simp only [Act.put, Pa, Pb, Pc]
    refine wpAnyH_done (by kernel_rfl) ?_ _
    go_wp2
    go_ret
    exact HQ.out _ hHeld
end

end Go.Proofs.Ytgodnpngdbelhaa.Np
