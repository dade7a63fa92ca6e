/-
  The document's Lead.
-/
import Derived.Test.YtpolmfgklgggcaaRD
namespace Go.Proofs.Ytpolmfgklgggcaa
open Go.RowKit Go.Maps
set_option linter.unusedVariables false
open M (E V fup)

theorem f11_res : Try.f11.results = #[.cell 6 32, .cell 7 28, .tmp 8] := rfl
/-- What Lead leaves. -/
def DLd (w : World) (a : Option Addr) (c : Nat) (x : M.R) (e : E) (k : Int) (z : Ending) (w' : World) : Prop := ∃ a' c', z = .returned (.tuple #[.agg (dvv a' c' (M.rls x e k)), bV (M.rle x e k), .int .i64 (M.rlc x e k)]) ∧ XX w' a' c' (M.rls x e k) ∧ New w a a' ∧ Below w.heap.size w w'
set_option maxRecDepth 100000 in
set_option maxHeartbeats 2000000 in
theorem rlead_any {w : World} {a : Option Addr} {c : Nat} {x : M.R} (h : XX w a c x) (e : E) (k : Int) : Calls Try.prog 11 #[.agg (dvv a c x), bV e, .int .i64 k] w (DLd w a c x e k) := by
  obtain ⟨W1, hW1, hb1, hr0, hr1, hr2, hr3, hs1⟩ := alloc4' w (.cells (dvv a c x) 32) (.cells #[.int .i64 e.i, .int .i64 e.t] 28) (.cells Z17 32) (.cells #[.int .i64 0, .int .i64 0] 28)
  have HW1 := Hid_of hW1
  have HB1 := Hid_of hb1
  have HR0 := Hid_of hr0
  have HR1 := Hid_of hr1
  have HR2 := Hid_of hr2
  have HR3 := Hid_of hr3
  obtain ⟨⟨y0, y1⟩, -⟩ := row2 hr1
  have cv := rvalid_any e W1
  have HX := Hid_of h
  have HERR : Hid (∀ (cd : Int) w', M.rlc x e k = cd → cd ≠ 0 → Below w.heap.size w w' → DLd w a c x e k (.returned (.tuple #[.agg (dvv a c x), .agg #[.int .i64 0, .int .i64 0], .int .i64 cd])) w') := fun cd w' hc h0 hw' => by
    have e1 : M.rle x e k = ⟨0, 0⟩ := by unfold M.rle; rw [if_neg (by omega)]
    have e2 : M.rls x e k = x := by unfold M.rls; rw [if_neg (by omega)]
    exact ⟨a, c, by rw [e1, e2, hc], by rw [e2]; exact h.keep hw', New.refl _ _, hw'⟩
  clear h hW1 hb1 hr0 hr1 hr2 hr3
  cases hv : M.vld e with
  | false =>
    have HC : Hid (M.rlc x e k = 1) := Hid_of (by unfold M.rlc; rw [hv]; rfl)
    rw [hv] at cv
    clear hv
    go_enter Try.func11, Try.ntmps11
    go_upto_region 1 with fail
    rw [HW1.out]
    clear HW1
    go_wp2_with fail
    refine cv.mono ?_
    clear cv
    rintro z w2 ⟨rfl, hb2⟩
    have q0 := bel_row HR0.out hb2
    have q2 := bel_row HR2.out hb2
    have q3 := bel_row HR3.out hb2
    have ld := load32_row q0
    have st := store32_row (w := w2) (b := w.heap.size + 2) (cs := Z17) rfl a c x q2
    have k1 := setRow32 q2 (dvv a c x)
    have k2 := (setRow_oth (w := w2) (g := w.heap.size + 2) (k := w.heap.size + 3) (dvv a c x) (by omega)).trans q3
    have kb := bel_setRow (bel_up HB1.out hb2 (Nat.le_refl _)) (show w.heap.size ≤ w.heap.size + 2 by omega) (dvv a c x)
    obtain ⟨W8, HW8⟩ : ∃ W8, Hid (w2.setRow (w.heap.size + 2) (dvv a c x) = W8) := ⟨_, Hid_of rfl⟩
    rw [HW8.out] at st k1 k2 kb
    obtain ⟨⟨g0, g1⟩, gf⟩ := row2 k2
    have gf0 := gf 0
    have gf1 := gf 1
    have HKB := Hid_of (put2_bel kb (show w.heap.size ≤ w.heap.size + 3 by omega) (.int .i64 0) (.int .i64 0))
    have HK1 := Hid_of ((put2_oth (w := W8) (g := w.heap.size + 3) (k := w.heap.size + 2) (by omega) (.int .i64 0) (.int .i64 0)).trans k1)
    have HK2 := Hid_of (put2_row k2 (.int .i64 0) (.int .i64 0))
    clear k1 k2 kb gf q0 q2 q3
    clear hb2 y0 y1
    go_upto_region 2 with fail
    go_wp2
    refine bodyPost_ret (v := .tuple #[.agg (dvv a c x), .agg #[.int .i64 0, .int .i64 0], .int .i64 1]) ?_ rfl (HERR.out 1 _ HC.out (by omega) HKB.out)
    exact res32b f11_res _ _ (w.heap.size + 2) (w.heap.size + 3) _ _ _ _ _ rfl rfl HK1.out HK2.out
  | true =>
    rw [hv] at cv
    by_cases h0 : k < 0
    · have d0 : decide (k < 0) = true := decide_eq_true h0
      have HC : Hid (M.rlc x e k = 1) := Hid_of (by unfold M.rlc M.slot; rw [decide_eq_false (show ¬ 0 ≤ k by omega), Bool.false_and, Bool.and_false]; rfl)
      clear hv h0
      go_enter Try.func11, Try.ntmps11
      go_upto_region 1 with fail
      rw [HW1.out]
      clear HW1
      go_wp2_with fail
      refine cv.mono ?_
      clear cv
      rintro z w2 ⟨rfl, hb2⟩
      have q0 := bel_row HR0.out hb2
      have q2 := bel_row HR2.out hb2
      have q3 := bel_row HR3.out hb2
      have ld := load32_row q0
      have st := store32_row (w := w2) (b := w.heap.size + 2) (cs := Z17) rfl a c x q2
      have k1 := setRow32 q2 (dvv a c x)
      have k2 := (setRow_oth (w := w2) (g := w.heap.size + 2) (k := w.heap.size + 3) (dvv a c x) (by omega)).trans q3
      have kb := bel_setRow (bel_up HB1.out hb2 (Nat.le_refl _)) (show w.heap.size ≤ w.heap.size + 2 by omega) (dvv a c x)
      obtain ⟨W8, HW8⟩ : ∃ W8, Hid (w2.setRow (w.heap.size + 2) (dvv a c x) = W8) := ⟨_, Hid_of rfl⟩
      rw [HW8.out] at st k1 k2 kb
      obtain ⟨⟨g0, g1⟩, gf⟩ := row2 k2
      have gf0 := gf 0
      have gf1 := gf 1
      have HKB := Hid_of (put2_bel kb (show w.heap.size ≤ w.heap.size + 3 by omega) (.int .i64 0) (.int .i64 0))
      have HK1 := Hid_of ((put2_oth (w := W8) (g := w.heap.size + 3) (k := w.heap.size + 2) (by omega) (.int .i64 0) (.int .i64 0)).trans k1)
      have HK2 := Hid_of (put2_row k2 (.int .i64 0) (.int .i64 0))
      clear k1 k2 kb gf q0 q2 q3
      clear hb2 y0 y1
      go_wp2
      refine bodyPost_ret (v := .tuple #[.agg (dvv a c x), .agg #[.int .i64 0, .int .i64 0], .int .i64 1]) ?_ rfl (HERR.out 1 _ HC.out (by omega) HKB.out)
      exact res32b f11_res _ _ (w.heap.size + 2) (w.heap.size + 3) _ _ _ _ _ rfl rfl HK1.out HK2.out
    · have d0 : decide (k < 0) = false := decide_eq_false h0
      by_cases h1 : 1024 ≤ k
      · have d1 : decide (1024 ≤ k) = true := decide_eq_true h1
        have HC : Hid (M.rlc x e k = 1) := Hid_of (by unfold M.rlc M.slot; rw [decide_eq_false (show ¬ k < 1024 by omega), Bool.and_false, Bool.and_false]; rfl)
        clear hv h0 h1
        go_enter Try.func11, Try.ntmps11
        go_upto_region 1 with fail
        rw [HW1.out]
        clear HW1
        go_wp2_with fail
        refine cv.mono ?_
        clear cv
        rintro z w2 ⟨rfl, hb2⟩
        have q0 := bel_row HR0.out hb2
        have q2 := bel_row HR2.out hb2
        have q3 := bel_row HR3.out hb2
        have ld := load32_row q0
        have st := store32_row (w := w2) (b := w.heap.size + 2) (cs := Z17) rfl a c x q2
        have k1 := setRow32 q2 (dvv a c x)
        have k2 := (setRow_oth (w := w2) (g := w.heap.size + 2) (k := w.heap.size + 3) (dvv a c x) (by omega)).trans q3
        have kb := bel_setRow (bel_up HB1.out hb2 (Nat.le_refl _)) (show w.heap.size ≤ w.heap.size + 2 by omega) (dvv a c x)
        obtain ⟨W8, HW8⟩ : ∃ W8, Hid (w2.setRow (w.heap.size + 2) (dvv a c x) = W8) := ⟨_, Hid_of rfl⟩
        rw [HW8.out] at st k1 k2 kb
        obtain ⟨⟨g0, g1⟩, gf⟩ := row2 k2
        have gf0 := gf 0
        have gf1 := gf 1
        have HKB := Hid_of (put2_bel kb (show w.heap.size ≤ w.heap.size + 3 by omega) (.int .i64 0) (.int .i64 0))
        have HK1 := Hid_of ((put2_oth (w := W8) (g := w.heap.size + 3) (k := w.heap.size + 2) (by omega) (.int .i64 0) (.int .i64 0)).trans k1)
        have HK2 := Hid_of (put2_row k2 (.int .i64 0) (.int .i64 0))
        clear k1 k2 kb gf q0 q2 q3
        clear hb2 y0 y1
        go_wp2
        refine bodyPost_ret (v := .tuple #[.agg (dvv a c x), .agg #[.int .i64 0, .int .i64 0], .int .i64 1]) ?_ rfl (HERR.out 1 _ HC.out (by omega) HKB.out)
        exact res32b f11_res _ _ (w.heap.size + 2) (w.heap.size + 3) _ _ _ _ _ rfl rfl HK1.out HK2.out
      · have d1 : decide (1024 ≤ k) = false := decide_eq_false h1
        have HCC : Hid (M.rlc x e k = if 2147483647 ≤ (M.grt e x.b).i then 5 else 0) := Hid_of (by unfold M.rlc M.slot; rw [hv, decide_eq_true (show 0 ≤ k by omega), decide_eq_true (show k < 1024 by omega)]; rfl)
        have HX0 : Hid (M.rlc x e k = 0 → M.rle x e k = M.nxt (M.grt e x.b) x.me ∧ M.rls x e k = ⟨x.n, x.me, k, k, M.nxt (M.grt e x.b) x.me, true, false, false, fun _ => false, []⟩) := fun e0 => ⟨by unfold M.rle; rw [if_pos e0], by unfold M.rls; rw [if_pos e0]⟩
        have cm : ∀ gl W, AtL bl W (some ⟨gl, 0, none⟩) [e, x.b] → Calls Try.prog 27 #[.slice (some ⟨gl, 0, none⟩) 2 2] W fun z w' => z = .returned (bV (M.grt e x.b)) ∧ Below W.heap.size W w' := fun gl W hat => by
          have := rmax_any (some ⟨gl, 0, none⟩) 2 [e, x.b] W hat (by simp)
          have e1 : M.bx [e, x.b] [e, x.b].length = M.grt e x.b := M.bx_two e x.b
          rw [e1] at this
          exact this
        generalize M.grt e x.b = g at *
        clear hv h0 h1
        go_enter Try.func11, Try.ntmps11
        go_upto_region 1 with fail
        rw [HW1.out]
        clear HW1
        go_wp2_with fail
        refine cv.mono ?_
        clear cv
        rintro z w2 ⟨rfl, hb2⟩
        have q0 := bel_row HR0.out hb2
        obtain ⟨⟨c0, c1, c2, c3, c4, c5, c6, c7, c8, c9, c10, c11, c12, c13, c14, c15, c16⟩, -⟩ := rowD q0
        obtain ⟨⟨z0, z1⟩, -⟩ := row2 (bel_row HR1.out hb2)
        have hl : (w2.alloc (.cells #[.int .i64 e.i, .int .i64 e.t, .int .i64 x.b.i, .int .i64 x.b.t] 28)).heap[w2.heap.size]? = some (.cells (bl.cells [e, x.b]).toArray 28 (0, 0)) := heap_alloc_last w2 _
        have cm1 := cm w2.heap.size _ (at_row hl)
        have HBl := Hid_of (bel_up hb2 (bel1 w2 (.cells #[.int .i64 e.i, .int .i64 e.t, .int .i64 x.b.i, .int .i64 x.b.t] 28)) (Nat.le_refl _))
        clear hl q0 hb2 y0 y1 cm
        go_wp2_with fail
        refine cm1.mono ?_
        clear cm1 c0 c1 c2 c3 c4 c5 c6 c7 c8 c9 c10 c11 c12 c13 c14 c15 c16 z0 z1
        rintro z w3 ⟨rfl, hb3⟩
        obtain ⟨W4, HW4⟩ : ∃ W4, Hid (w3.alloc (.cells #[.int .i64 g.i, .int .i64 g.t] 28) = W4) := ⟨_, Hid_of rfl⟩
        have hb4 : Below w3.heap.size w3 W4 := by rw [← HW4.out]; exact bel1 w3 _
        have hr4 : W4.heap[w3.heap.size]? = some (.cells #[.int .i64 g.i, .int .i64 g.t] 28 (0, 0)) := by rw [← HW4.out]; exact heap_alloc_last w3 _
        have hb14 := bel_up (bel_up HBl.out hb3 (Nat.le_refl _)) hb4 (Nat.le_refl _)
        obtain ⟨⟨k0, k1⟩, -⟩ := row2 hr4
        have HR4 := Hid_of hr4
        have HB4 := Hid_of hb14
        obtain ⟨B9, HB9⟩ : ∃ B9, Hid (w3.heap.size = B9) := ⟨_, Hid_of rfl⟩
        rw [HB9.out] at k0 k1 HR4
        clear hb3 hb4 hr4 HBl
        by_cases hN : 2147483647 ≤ g.i
        · have dN : decide (2147483647 ≤ g.i) = true := decide_eq_true hN
          have HC : Hid (M.rlc x e k = 5) := Hid_of (by rw [HCC.out, if_pos hN])
          have q0 := bel_row HR0.out hb14
          have q2 := bel_row HR2.out hb14
          have q3 := bel_row HR3.out hb14
          have ld := load32_row q0
          have st := store32_row (w := W4) (b := w.heap.size + 2) (cs := Z17) rfl a c x q2
          have k1 := setRow32 q2 (dvv a c x)
          have k2 := (setRow_oth (w := W4) (g := w.heap.size + 2) (k := w.heap.size + 3) (dvv a c x) (by omega)).trans q3
          have kb := bel_setRow (bel_up HB1.out hb14 (Nat.le_refl _)) (show w.heap.size ≤ w.heap.size + 2 by omega) (dvv a c x)
          obtain ⟨W8, HW8⟩ : ∃ W8, Hid (W4.setRow (w.heap.size + 2) (dvv a c x) = W8) := ⟨_, Hid_of rfl⟩
          rw [HW8.out] at st k1 k2 kb
          obtain ⟨⟨g0, g1⟩, gf⟩ := row2 k2
          have gf0 := gf 0
          have gf1 := gf 1
          have HKB := Hid_of (put2_bel kb (show w.heap.size ≤ w.heap.size + 3 by omega) (.int .i64 0) (.int .i64 0))
          have HK1 := Hid_of ((put2_oth (w := W8) (g := w.heap.size + 3) (k := w.heap.size + 2) (by omega) (.int .i64 0) (.int .i64 0)).trans k1)
          have HK2 := Hid_of (put2_row k2 (.int .i64 0) (.int .i64 0))
          clear k1 k2 kb gf q0 q2 q3
          clear hN hb14
          go_upto_region 4 with fail
          rw [HW4.out, HB9.out]
          clear HW4 HB9
          go_wp2
          refine bodyPost_ret (v := .tuple #[.agg (dvv a c x), .agg #[.int .i64 0, .int .i64 0], .int .i64 5]) ?_ rfl (HERR.out 5 _ HC.out (by omega) HKB.out)
          exact res32b f11_res _ _ (w.heap.size + 2) (w.heap.size + 3) _ _ _ _ _ rfl rfl HK1.out HK2.out
        · have dN : decide (2147483647 ≤ g.i) = false := decide_eq_false hN
          have HC : Hid (M.rlc x e k = 0) := Hid_of (by rw [HCC.out, if_neg hN])
          obtain ⟨HX1, HX2⟩ := HX0.out HC.out
          have cn := rnext_any g x.me
          obtain ⟨y, HY⟩ : ∃ y, Hid (M.nxt g x.me = y) := ⟨_, Hid_of rfl⟩
          rw [HY.out] at HX1 HX2 cn
          have HX1 := Hid_of HX1
          have HX2 := Hid_of HX2
          obtain ⟨⟨c0, c1, c2, c3, c4, c5, c6, c7, c8, c9, c10, c11, c12, c13, c14, c15, c16⟩, -⟩ := rowD (bel_row HR0.out hb14)
          clear hN hb14 HX0 HCC HERR
          go_upto_region 4 with fail
          rw [HW4.out, HB9.out]
          clear HW4 HB9
          go_wp2_with fail
          refine (cn _).mono ?_
          clear cn c0 c1 c2 c3 c4 c5 c6 c7 c8 c9 c10 c11 c12 c13 c14 c15 c16 k0 k1
          rintro z w5 ⟨rfl, hb5⟩
          obtain ⟨W6, HW6⟩ : ∃ W6, Hid (w5.alloc (.cells #[.int .i64 y.i, .int .i64 y.t] 28) = W6) := ⟨_, Hid_of rfl⟩
          have hb6 : Below w5.heap.size w5 W6 := by rw [← HW6.out]; exact bel1 w5 _
          have hr6 : W6.heap[w5.heap.size]? = some (.cells #[.int .i64 y.i, .int .i64 y.t] 28 (0, 0)) := by rw [← HW6.out]; exact heap_alloc_last w5 _
          have hb16 := bel_up (bel_up HB4.out hb5 (Nat.le_refl _)) hb6 (Nat.le_refl _)
          obtain ⟨g10, HG10⟩ : ∃ g10, Hid (w5.heap.size = g10) := ⟨_, Hid_of rfl⟩
          rw [HG10.out] at hr6
          have hg10 : w.heap.size + 4 ≤ g10 := by rw [← HG10.out, ← hs1]; exact Nat.le_trans HB4.out.size hb5.size
          have HQ0 := Hid_of (bel_row HR0.out hb16)
          have HQ2 := Hid_of (bel_row HR2.out hb16)
          have HQ3 := Hid_of (bel_row HR3.out hb16)
          have HQB := Hid_of (bel_up HB1.out hb16 (Nat.le_refl _))
          have HQ6 := Hid_of hr6
          have HS7 : Hid (∀ wq, (fun wq : World => wq.heap[w.heap.size]? = some (.cells (dvv a c x) 32 (0, 0)) ∧ wq.heap[g10]? = some (.cells #[.int .i64 y.i, .int .i64 y.t] 28 (0, 0))) wq → wq.cell? ⟨w.heap.size, 0, none⟩ = some (.int .i64 x.n) ∧ wq.cell? ⟨w.heap.size, 1, none⟩ = some (.int .i64 x.me) ∧ wq.cell? ⟨g10, 0, none⟩ = some (.int .i64 y.i) ∧ wq.cell? ⟨g10, 1, none⟩ = some (.int .i64 y.t)) := fun wq hq => ⟨(rowD hq.1).1.1, (rowD hq.1).1.2.1, (row2 hq.2).1⟩
          obtain ⟨x2, HX⟩ : ∃ x2 : M.R, Hid ((⟨x.n, x.me, k, k, y, true, false, false, fun _ => false, []⟩ : M.R) = x2) := ⟨_, Hid_of rfl⟩
          rw [HX.out] at HX2
          have HLE : Hid (((((((Z17.setIfInBounds 0 (.int .i64 x.n)).setIfInBounds 1 (.int .i64 x.me)).setIfInBounds 2 (.int .i64 k)).setIfInBounds 3 (.int .i64 k)).setIfInBounds 4 (.int .i64 y.i)).setIfInBounds 5 (.int .i64 y.t)).setIfInBounds 6 (.bool true) = dvv none 0 x2) := Hid_of (by rw [← HX.out]; rfl)
          have HX2L : Hid (x2.l = []) := Hid_of (by rw [← HX.out])
          clear hb5 hb6 hr6 hb16 HX
          go_upto_region 7 with fail
          rw [HW6.out, HG10.out]
          clear HW6 HG10
          refine wp_region_held_drew (S := fun wq : World => wq.heap[w.heap.size]? = some (.cells (dvv a c x) 32 (0, 0)) ∧ wq.heap[g10]? = some (.cells #[.int .i64 y.i, .int .i64 y.t] 28 (0, 0))) (by kernel_rfl) ⟨HQ0.out, HQ6.out⟩ (fun hHeld => ?_)
          obtain ⟨wda, hwda⟩ : ∃ wd, W6.drew = wd := ⟨_, rfl⟩
          have hBwd : Below W6.heap.size W6 wda := by rw [← hwda]; exact Below.drew (Below.refl _ _)
          rw [hwda] at hHeld ⊢
          clear hwda
          have st := store32_row (w := wda) (b := w.heap.size + 2) (cs := Z17) rfl none 0 x2 (bel_row HQ2.out hBwd)
          have hze : ¬ (Z17 = #[]) := fun h => by have := congrArg Array.size h; simp at this
          refine Tm 0 ?p0a ?v0a hHeld ?r0a
          refine Tk 1 ?p1a ?v1a ?y1a hHeld ?r1a
          case y1a => intro wq hq; obtain ⟨q0, q1, q2, q3⟩ := HS7.out wq hq; go_simp; try with_reducible rfl
          refine Tm 2 ?p2a ?v2a hHeld ?r2a
          refine Tk 3 ?p3a ?v3a ?y3a hHeld ?r3a
          case y3a => intro wq hq; obtain ⟨q0, q1, q2, q3⟩ := HS7.out wq hq; go_simp; try with_reducible rfl
          refine Tm 4 ?p4a ?v4a hHeld ?r4a
          refine Tm 5 ?p5a ?v5a hHeld ?r5a
          refine Tk 6 ?p6a ?v6a ?y6a hHeld ?r6a
          case y6a => intro wq hq; obtain ⟨q0, q1, q2, q3⟩ := HS7.out wq hq; go_simp; try with_reducible rfl
          refine Tm 7 ?p7a ?v7a hHeld ?r7a
          refine Tk 8 ?p8a ?v8a ?y8a hHeld ?r8a
          case y8a => intro wq hq; obtain ⟨q0, q1, q2, q3⟩ := HS7.out wq hq; go_simp; try with_reducible rfl
          simp only [Act.put, Pa, Pb, Pc]
          rw [HLE.out]
          refine Rd 9 ?p9a ?s9a
          intro K hK
          go_simp
          obtain ⟨ws, hws⟩ : ∃ ws, wda.setRow (w.heap.size + 2) (dvv none 0 x2) = ws := ⟨_, rfl⟩
          have k1 := setRow32 (bel_row HQ2.out hBwd) (dvv none 0 x2)
          have k2 := (setRow_oth (w := wda) (g := w.heap.size + 2) (k := w.heap.size + 3) (dvv none 0 x2) (by omega)).trans (bel_row HQ3.out hBwd)
          have kb := bel_setRow (bel_up HQB.out hBwd (show w.heap.size ≤ w.heap.size from Nat.le_refl _)) (show w.heap.size ≤ w.heap.size + 2 by omega) (dvv none 0 x2)
          have Bs : ws.heap[w.heap.size]? = some (.cells (dvv a c x) 32 (0, 0)) ∧ ws.heap[g10]? = some (.cells #[.int .i64 y.i, .int .i64 y.t] 28 (0, 0)) := by
            rw [← hws]
            exact ⟨(setRow_oth _ (by omega)).trans hHeld.1, (setRow_oth _ (by omega)).trans hHeld.2⟩
          rw [hws] at k1 k2 kb ⊢
          clear hws
          obtain ⟨⟨g0, g1⟩, gf⟩ := row2 k2
          have gf0 := gf 0
          have gf1 := gf 1
          refine hK.out _ _ Bs (fun hHeld => ?_)
          clear hK K
          refine Rd 10 ?p10a_9 ?s10a_9
          intro K hK
          go_simp
          have Bt : (put2 ws (w.heap.size + 3) (.int .i64 y.i) (.int .i64 y.t)).heap[w.heap.size]? = some (.cells (dvv a c x) 32 (0, 0)) ∧ (put2 ws (w.heap.size + 3) (.int .i64 y.i) (.int .i64 y.t)).heap[g10]? = some (.cells #[.int .i64 y.i, .int .i64 y.t] 28 (0, 0)) :=
            ⟨(put2_oth (by omega) _ _).trans hHeld.1, (put2_oth (by omega) _ _).trans hHeld.2⟩
          have HKB := Hid_of (put2_bel kb (show w.heap.size ≤ w.heap.size + 3 by omega) (.int .i64 y.i) (.int .i64 y.t))
          have HK1 := Hid_of ((put2_oth (w := ws) (g := w.heap.size + 3) (k := w.heap.size + 2) (by omega) (.int .i64 y.i) (.int .i64 y.t)).trans k1)
          have HK2 := Hid_of (put2_row k2 (.int .i64 y.i) (.int .i64 y.t))
          clear k1 k2 kb gf
          refine hK.out _ _ Bt (fun hHeld => ?_)
          clear hK K
          refine Tm 11 ?p11a_9_10 ?v11a_9_10 hHeld ?r11a_9_10
          simp only [Act.put, Pa, Pb, Pc]
          refine wpAnyH_done (by kernel_rfl) ?_ _
          go_wp2
          refine bodyPost_ret (v := .tuple #[.agg (dvv none 0 x2), .agg #[.int .i64 y.i, .int .i64 y.t], .int .i64 0]) ?_ rfl ⟨none, 0, by rw [HX1.out, HX2.out, HC.out], by rw [HX2.out]; exact XX.emp _ HX2L.out, New.none _ _, HKB.out⟩
          exact res32b f11_res _ _ (w.heap.size + 2) (w.heap.size + 3) _ _ _ _ _ rfl rfl HK1.out HK2.out

end Go.Proofs.Ytpolmfgklgggcaa
