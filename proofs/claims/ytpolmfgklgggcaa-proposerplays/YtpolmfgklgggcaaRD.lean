/-
  The document's Propose.
-/
import Derived.Test.YtpolmfgklgggcaaRC
namespace Go.Proofs.Ytpolmfgklgggcaa
open Go.RowKit Go.Maps
set_option linter.unusedVariables false
open M (E V fup)

/-- What Propose leaves. -/
def DPp (w : World) (a : Option Addr) (c : Nat) (x : M.R) (v : ByteArray) (z : Ending) (w' : World) : Prop := z = .returned (.tuple #[.agg (dvv a c (M.rpp x v)), vV (M.rpv x v), .int .i64 (M.rpc x v)]) ∧ Below w.heap.size w w'
theorem f18_res : Try.f18.results = #[.cell 4 32, .cell 5 36, .tmp 6] := rfl
theorem prop_eq (a : Option Addr) (c : Nat) (x : M.R) : (dvv a c x).setIfInBounds 3 (.int .i64 (x.nx + 1)) = dvv a c { x with nx := x.nx + 1 } := rfl
set_option maxRecDepth 100000 in
set_option maxHeartbeats 1000000 in
theorem rpropose_any (a : Option Addr) (c : Nat) (x : M.R) (v : ByteArray) (w : World) (h0 : 0 ≤ x.nx) : Calls Try.prog 18 #[.agg (dvv a c x), .string v] w (DPp w a c x v) := by
  obtain ⟨W1, hW1, hb1, hr0, hr1, hr2, hs1⟩ := alloc3 w (.cells (dvv a c x) 32) (.cells Z17 32) (.cells #[.int .i64 0, .int .i64 0, .int .i64 0, .string ⟨#[]⟩] 36)
  have HW1 := Hid_of hW1
  have HB1 := Hid_of hb1
  have HR0 := Hid_of hr0
  have HR1 := Hid_of hr1
  have HR2 := Hid_of hr2
  obtain ⟨⟨c0, c1, c2, c3, c4, c5, c6, c7, c8, c9, c10, c11, c12, c13, c14, c15, c16⟩, cf⟩ := rowD hr0
  have HNO : Hid (M.rpc x v ≠ 0 → M.rpv x v = ⟨0, ⟨0, 0⟩, ⟨#[]⟩⟩ ∧ M.rpp x v = x) := fun h => ⟨by unfold M.rpv; rw [if_neg h], by unfold M.rpp; rw [if_neg h]⟩
  clear hW1 hb1 hr0 hr1 hr2
  unfold DPp
  by_cases h1 : 4096 < v.size
  · have d1 : decide ((4096 : Int) < (v.size : Int)) = true := decide_eq_true (by omega)
    have HC : Hid (M.rpc x v = 2) := Hid_of (by unfold M.rpc; rw [if_pos h1])
    have HNV := Hid_of (HNO.out (by rw [HC.out]; decide)).1
    have HNS := Hid_of (HNO.out (by rw [HC.out]; decide)).2
    clear HNO h1 cf
    have ld := load32_row HR0.out
    have st := store32_row (w := W1) (b := w.heap.size + 1) (cs := Z17) rfl a c x HR1.out
    have k1 := setRow32 HR1.out (dvv a c x)
    have k2 := (setRow_oth (w := W1) (g := w.heap.size + 1) (k := w.heap.size + 2) (dvv a c x) (by omega)).trans HR2.out
    have kb := bel_setRow HB1.out (show w.heap.size ≤ w.heap.size + 1 by omega) (dvv a c x)
    obtain ⟨W2, HW2⟩ : ∃ W2, Hid (W1.setRow (w.heap.size + 1) (dvv a c x) = W2) := ⟨_, Hid_of rfl⟩
    rw [HW2.out] at st k1 k2 kb
    obtain ⟨⟨g0, g1, g2, g3⟩, gf⟩ := row4 k2
    have gf0 := gf 0
    have gf1 := gf 1
    have gf2 := gf 2
    have gf3 := gf 3
    have HKB := Hid_of (put4_bel kb (show w.heap.size ≤ w.heap.size + 2 by omega) (.int .i64 0) (.int .i64 0) (.int .i64 0) (.string ⟨#[]⟩))
    have HK1 := Hid_of ((put4_oth (w := W2) (g := w.heap.size + 2) (k := w.heap.size + 1) (by omega) (.int .i64 0) (.int .i64 0) (.int .i64 0) (.string ⟨#[]⟩)).trans k1)
    have HK2 := Hid_of (put4_row k2 (.int .i64 0) (.int .i64 0) (.int .i64 0) (.string ⟨#[]⟩))
    clear k1 k2 kb gf
    go_enter Try.func18, Try.ntmps18
    go_upto_region 1 with fail
    rw [HW1.out]
    clear HW1
    go_wp2
    refine bodyPost_ret (v := .tuple #[.agg (dvv a c x), .agg #[.int .i64 0, .int .i64 0, .int .i64 0, .string ⟨#[]⟩], .int .i64 2]) ?_ rfl ⟨by rw [HC.out, HNV.out, HNS.out], HKB.out⟩
    exact res32v4 f18_res _ _ (w.heap.size + 1) (w.heap.size + 2) _ _ _ _ _ _ _ rfl rfl HK1.out HK2.out
  · have d1 : decide ((4096 : Int) < (v.size : Int)) = false := decide_eq_false (by omega)
    by_cases h2 : 1024 ≤ x.nx
    · have d2 : decide (1024 ≤ x.nx) = true := decide_eq_true h2
      have HC : Hid (M.rpc x v = 5) := Hid_of (by unfold M.rpc; rw [if_neg h1, if_pos h2])
      have HNV := Hid_of (HNO.out (by rw [HC.out]; decide)).1
      have HNS := Hid_of (HNO.out (by rw [HC.out]; decide)).2
      clear HNO h1 h2 cf
      have ld := load32_row HR0.out
      have st := store32_row (w := W1) (b := w.heap.size + 1) (cs := Z17) rfl a c x HR1.out
      have k1 := setRow32 HR1.out (dvv a c x)
      have k2 := (setRow_oth (w := W1) (g := w.heap.size + 1) (k := w.heap.size + 2) (dvv a c x) (by omega)).trans HR2.out
      have kb := bel_setRow HB1.out (show w.heap.size ≤ w.heap.size + 1 by omega) (dvv a c x)
      obtain ⟨W2, HW2⟩ : ∃ W2, Hid (W1.setRow (w.heap.size + 1) (dvv a c x) = W2) := ⟨_, Hid_of rfl⟩
      rw [HW2.out] at st k1 k2 kb
      obtain ⟨⟨g0, g1, g2, g3⟩, gf⟩ := row4 k2
      have gf0 := gf 0
      have gf1 := gf 1
      have gf2 := gf 2
      have gf3 := gf 3
      have HKB := Hid_of (put4_bel kb (show w.heap.size ≤ w.heap.size + 2 by omega) (.int .i64 0) (.int .i64 0) (.int .i64 0) (.string ⟨#[]⟩))
      have HK1 := Hid_of ((put4_oth (w := W2) (g := w.heap.size + 2) (k := w.heap.size + 1) (by omega) (.int .i64 0) (.int .i64 0) (.int .i64 0) (.string ⟨#[]⟩)).trans k1)
      have HK2 := Hid_of (put4_row k2 (.int .i64 0) (.int .i64 0) (.int .i64 0) (.string ⟨#[]⟩))
      clear k1 k2 kb gf
      go_enter Try.func18, Try.ntmps18
      go_upto_region 1 with fail
      rw [HW1.out]
      clear HW1
      go_wp2
      refine bodyPost_ret (v := .tuple #[.agg (dvv a c x), .agg #[.int .i64 0, .int .i64 0, .int .i64 0, .string ⟨#[]⟩], .int .i64 5]) ?_ rfl ⟨by rw [HC.out, HNV.out, HNS.out], HKB.out⟩
      exact res32v4 f18_res _ _ (w.heap.size + 1) (w.heap.size + 2) _ _ _ _ _ _ _ rfl rfl HK1.out HK2.out
    · have d2 : decide (1024 ≤ x.nx) = false := decide_eq_false h2
      rcases Bool.eq_false_or_eq_true x.ld with h3 | h3
      · have HC : Hid (M.rpc x v = 0) := Hid_of (by unfold M.rpc; rw [if_neg h1, if_neg h2, h3]; rfl)
        have HNV : Hid (M.rpv x v = ⟨x.nx, x.b, v⟩) := Hid_of (by unfold M.rpv; rw [if_pos HC.out])
        have HNS : Hid (M.rpp x v = { x with nx := x.nx + 1 }) := Hid_of (by unfold M.rpp; rw [if_pos HC.out])
        have hwr : IntKind.i64.wrap (x.nx + 1) = x.nx + 1 := by rw [IntKind.wrap_i64]; omega
        rw [h3] at c7
        obtain ⟨W2, HW2⟩ : ∃ W2, Hid (W1.alloc (.cells #[.int .i64 x.nx, .int .i64 x.b.i, .int .i64 x.b.t, .string v] 36) = W2) := ⟨_, Hid_of rfl⟩
        have hb2 : Below W1.heap.size W1 W2 := by rw [← HW2.out]; exact bel1 W1 _
        have hr2 : W2.heap[W1.heap.size]? = some (.cells #[.int .i64 x.nx, .int .i64 x.b.i, .int .i64 x.b.t, .string v] 36 (0, 0)) := by rw [← HW2.out]; exact heap_alloc_last W1 _
        rw [hs1] at hr2
        have q0 := bel_row HR0.out hb2
        obtain ⟨⟨e0, e1, e2, e3, e4, e5, e6, e7, e8, e9, e10, e11, e12, e13, e14, e15, e16⟩, ef⟩ := rowD q0
        have ef3 := ef 3
        have n0 : (W2.setCell ⟨w.heap.size, 3, none⟩ (.int .i64 (x.nx + 1))).heap[w.heap.size]? = some (.cells (dvv a c { x with nx := x.nx + 1 }) 32 (0, 0)) := by
          rw [heap_setCell_same W2 _ 3 _ _ (.int .i64 (x.nx + 1)) q0, prop_eq]
        have n1 := (heap_setCell_other W2 ⟨w.heap.size, 3, none⟩ (w.heap.size + 1) (.int .i64 (x.nx + 1)) (show w.heap.size + 1 ≠ w.heap.size by omega)).trans (bel_row HR1.out hb2)
        have n2 := (heap_setCell_other W2 ⟨w.heap.size, 3, none⟩ (w.heap.size + 2) (.int .i64 (x.nx + 1)) (show w.heap.size + 2 ≠ w.heap.size by omega)).trans (bel_row HR2.out hb2)
        have n7 := (heap_setCell_other W2 ⟨w.heap.size, 3, none⟩ (w.heap.size + 3) (.int .i64 (x.nx + 1)) (show w.heap.size + 3 ≠ w.heap.size by omega)).trans hr2
        have nb : Below w.heap.size w (W2.setCell ⟨w.heap.size, 3, none⟩ (.int .i64 (x.nx + 1))) := (bel_up HB1.out hb2 (Nat.le_refl _)).setCell (Nat.le_refl _) _
        obtain ⟨W3, HW3⟩ : ∃ W3, Hid (W2.setCell ⟨w.heap.size, 3, none⟩ (.int .i64 (x.nx + 1)) = W3) := ⟨_, Hid_of rfl⟩
        rw [HW3.out] at n0 n1 n2 n7 nb
        obtain ⟨x2, HX2⟩ : ∃ x2, Hid (({ x with nx := x.nx + 1 } : M.R) = x2) := ⟨_, Hid_of rfl⟩
        rw [HX2.out] at n0 HNS
        have HQ0 := Hid_of n0
        have HQ1 := Hid_of n1
        have HQ2 := Hid_of n2
        have HQ7 := Hid_of n7
        have HQB := Hid_of nb
        have HS9 : Hid (∀ wq, (fun wq : World => wq.heap[w.heap.size]? = some (.cells (dvv a c x2) 32 (0, 0)) ∧ wq.heap[w.heap.size + 3]? = some (.cells #[.int .i64 x.nx, .int .i64 x.b.i, .int .i64 x.b.t, .string v] 36 (0, 0))) wq → (ld32 ⟨w.heap.size, 0, none⟩).run Try.prog wq = .ok (dvv a c x2) wq ∧ (wq.cell? ⟨w.heap.size + 3, 0, none⟩ = some (.int .i64 x.nx) ∧ wq.cell? ⟨w.heap.size + 3, 1, none⟩ = some (.int .i64 x.b.i) ∧ wq.cell? ⟨w.heap.size + 3, 2, none⟩ = some (.int .i64 x.b.t) ∧ wq.cell? ⟨w.heap.size + 3, 3, none⟩ = some (.string v))) := fun wq hq => ⟨load32_row hq.1, (row4 hq.2).1⟩
        clear n0 n1 n2 n7 nb q0 hb2 hr2 ef cf HNO h1 h2 h3 HX2
        go_enter Try.func18, Try.ntmps18
        go_upto_region 1 with fail
        rw [HW1.out]
        clear HW1
        go_upto_region 8 with fail
        rw [HW2.out]
        clear HW2 c0 c1 c2 c3 c4 c5 c6 c7 c8 c9 c10 c11 c12 c13 c14 c15 c16
        go_upto_region 9 with fail
        rw [HW3.out]
        clear HW3 e0 e1 e2 e3 e4 e5 e6 e7 e8 e9 e10 e11 e12 e13 e14 e15 e16 ef3
        refine wp_region_held_drew (S := fun wq : World => wq.heap[w.heap.size]? = some (.cells (dvv a c x2) 32 (0, 0)) ∧ wq.heap[w.heap.size + 3]? = some (.cells #[.int .i64 x.nx, .int .i64 x.b.i, .int .i64 x.b.t, .string v] 36 (0, 0))) (by kernel_rfl) ⟨HQ0.out, HQ7.out⟩ (fun hHeld => ?_)
        obtain ⟨wda, hwda⟩ : ∃ wd, W3.drew = wd := ⟨_, rfl⟩
        have hBwd : Below W3.heap.size W3 wda := by rw [← hwda]; exact Below.drew (Below.refl _ _)
        rw [hwda] at hHeld ⊢
        clear hwda
        have st := store32_row (w := wda) (b := w.heap.size + 1) (cs := Z17) rfl a c x2 (bel_row HQ1.out hBwd)
        refine Tk 0 ?p0a ?v0a ?y0a hHeld ?r0a
        case y0a => intro wq hq; obtain ⟨q0, q1, q2, q3, q4⟩ := HS9.out wq hq; go_simp; try with_reducible rfl
        refine Tk 1 ?p1a ?v1a ?y1a hHeld ?r1a
        case y1a => intro wq hq; obtain ⟨q0, q1, q2, q3, q4⟩ := HS9.out wq hq; go_simp; try with_reducible rfl
        simp only [Act.put, Pa, Pb, Pc]
        refine Rd 2 ?p2a ?s2a
        intro K hK
        go_simp
        obtain ⟨ws, hws⟩ : ∃ ws, wda.setRow (w.heap.size + 1) (dvv a c x2) = ws := ⟨_, rfl⟩
        have k1 := setRow32 (bel_row HQ1.out hBwd) (dvv a c x2)
        have k2 := (setRow_oth (w := wda) (g := w.heap.size + 1) (k := w.heap.size + 2) (dvv a c x2) (by omega)).trans (bel_row HQ2.out hBwd)
        have kb := bel_setRow (bel_up HQB.out hBwd (show w.heap.size ≤ w.heap.size from Nat.le_refl _)) (show w.heap.size ≤ w.heap.size + 1 by omega) (dvv a c x2)
        have Bs : ws.heap[w.heap.size]? = some (.cells (dvv a c x2) 32 (0, 0)) ∧ ws.heap[w.heap.size + 3]? = some (.cells #[.int .i64 x.nx, .int .i64 x.b.i, .int .i64 x.b.t, .string v] 36 (0, 0)) := by
          rw [← hws]
          exact ⟨(setRow_oth _ (by omega)).trans hHeld.1, (setRow_oth _ (by omega)).trans hHeld.2⟩
        rw [hws] at k1 k2 kb ⊢
        clear hws
        obtain ⟨⟨g0, g1, g2, g3⟩, gf⟩ := row4 k2
        have gf0 := gf 0
        have gf1 := gf 1
        have gf2 := gf 2
        have gf3 := gf 3
        refine hK.out _ _ Bs (fun hHeld => ?_)
        clear hK K
        refine Rd 3 ?p3a_2 ?s3a_2
        intro K hK
        go_simp
        have Bt : (put4 ws (w.heap.size + 2) (.int .i64 x.nx) (.int .i64 x.b.i) (.int .i64 x.b.t) (.string v)).heap[w.heap.size]? = some (.cells (dvv a c x2) 32 (0, 0)) ∧ (put4 ws (w.heap.size + 2) (.int .i64 x.nx) (.int .i64 x.b.i) (.int .i64 x.b.t) (.string v)).heap[w.heap.size + 3]? = some (.cells #[.int .i64 x.nx, .int .i64 x.b.i, .int .i64 x.b.t, .string v] 36 (0, 0)) :=
          ⟨(put4_oth (by omega) _ _ _ _).trans hHeld.1, (put4_oth (by omega) _ _ _ _).trans hHeld.2⟩
        have HKB := Hid_of (put4_bel kb (show w.heap.size ≤ w.heap.size + 2 by omega) (.int .i64 x.nx) (.int .i64 x.b.i) (.int .i64 x.b.t) (.string v))
        have HK1 := Hid_of ((put4_oth (w := ws) (g := w.heap.size + 2) (k := w.heap.size + 1) (by omega) (.int .i64 x.nx) (.int .i64 x.b.i) (.int .i64 x.b.t) (.string v)).trans k1)
        have HK2 := Hid_of (put4_row k2 (.int .i64 x.nx) (.int .i64 x.b.i) (.int .i64 x.b.t) (.string v))
        clear k1 k2 kb gf
        refine hK.out _ _ Bt (fun hHeld => ?_)
        clear hK K
        refine Tm 4 ?p4a_2_3 ?v4a_2_3 hHeld ?r4a_2_3
        simp only [Act.put, Pa, Pb, Pc]
        refine wpAnyH_done (by kernel_rfl) ?_ _
        go_wp2
        refine bodyPost_ret (v := .tuple #[.agg (dvv a c x2), .agg #[.int .i64 x.nx, .int .i64 x.b.i, .int .i64 x.b.t, .string v], .int .i64 0]) ?_ rfl ⟨by rw [HC.out, HNV.out, HNS.out], HKB.out⟩
        exact res32v4 f18_res _ _ (w.heap.size + 1) (w.heap.size + 2) _ _ _ _ _ _ _ rfl rfl HK1.out HK2.out
      · have HC : Hid (M.rpc x v = 16) := Hid_of (by unfold M.rpc; rw [if_neg h1, if_neg h2, h3]; rfl)
        have HNV := Hid_of (HNO.out (by rw [HC.out]; decide)).1
        have HNS := Hid_of (HNO.out (by rw [HC.out]; decide)).2
        rw [h3] at c7
        clear HNO h1 h2 h3 cf
        have ld := load32_row HR0.out
        have st := store32_row (w := W1) (b := w.heap.size + 1) (cs := Z17) rfl a c x HR1.out
        have k1 := setRow32 HR1.out (dvv a c x)
        have k2 := (setRow_oth (w := W1) (g := w.heap.size + 1) (k := w.heap.size + 2) (dvv a c x) (by omega)).trans HR2.out
        have kb := bel_setRow HB1.out (show w.heap.size ≤ w.heap.size + 1 by omega) (dvv a c x)
        obtain ⟨W2, HW2⟩ : ∃ W2, Hid (W1.setRow (w.heap.size + 1) (dvv a c x) = W2) := ⟨_, Hid_of rfl⟩
        rw [HW2.out] at st k1 k2 kb
        obtain ⟨⟨g0, g1, g2, g3⟩, gf⟩ := row4 k2
        have gf0 := gf 0
        have gf1 := gf 1
        have gf2 := gf 2
        have gf3 := gf 3
        have HKB := Hid_of (put4_bel kb (show w.heap.size ≤ w.heap.size + 2 by omega) (.int .i64 0) (.int .i64 0) (.int .i64 0) (.string ⟨#[]⟩))
        have HK1 := Hid_of ((put4_oth (w := W2) (g := w.heap.size + 2) (k := w.heap.size + 1) (by omega) (.int .i64 0) (.int .i64 0) (.int .i64 0) (.string ⟨#[]⟩)).trans k1)
        have HK2 := Hid_of (put4_row k2 (.int .i64 0) (.int .i64 0) (.int .i64 0) (.string ⟨#[]⟩))
        clear k1 k2 kb gf
        go_enter Try.func18, Try.ntmps18
        go_upto_region 1 with fail
        rw [HW1.out]
        clear HW1
        go_wp2
        refine bodyPost_ret (v := .tuple #[.agg (dvv a c x), .agg #[.int .i64 0, .int .i64 0, .int .i64 0, .string ⟨#[]⟩], .int .i64 16]) ?_ rfl ⟨by rw [HC.out, HNV.out, HNS.out], HKB.out⟩
        exact res32v4 f18_res _ _ (w.heap.size + 1) (w.heap.size + 2) _ _ _ _ _ _ _ rfl rfl HK1.out HK2.out

end Go.Proofs.Ytpolmfgklgggcaa
