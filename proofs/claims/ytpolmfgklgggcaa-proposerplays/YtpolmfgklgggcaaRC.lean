/-
  The document's Step.
-/
import Derived.Test.YtpolmfgklgggcaaRB
namespace Go.Proofs.Ytpolmfgklgggcaa
open Go.RowKit Go.Maps
set_option linter.unusedVariables false
open M (E V fup)

theorem bel2 (w : World) (o o' : Obj) : Below w.heap.size w ((w.alloc o).alloc o') := bel_up (bel1 w o) (bel1 _ o') (Nat.le_refl _)
theorem alloc3 (w : World) (o1 o2 o3 : Obj) : ∃ W, ((w.alloc o1).alloc o2).alloc o3 = W ∧ Below w.heap.size w W ∧ W.heap[w.heap.size]? = some o1 ∧ W.heap[w.heap.size + 1]? = some o2 ∧ W.heap[w.heap.size + 2]? = some o3 ∧ W.heap.size = w.heap.size + 3 := by
  refine ⟨_, rfl, bel_up (bel2 w o1 o2) (bel1 _ o3) (Nat.le_refl _), ?_, ?_, ?_, by simp⟩
  · exact (bel1 ((w.alloc o1).alloc o2) o3).block _ (by have e : ((w.alloc o1).alloc o2).heap.size = w.heap.size + 2 := (by simp); omega) |>.trans (heap_alloc2_old w o1 o2)
  · exact (bel1 ((w.alloc o1).alloc o2) o3).block _ (by have e : ((w.alloc o1).alloc o2).heap.size = w.heap.size + 2 := (by simp); omega) |>.trans (heap_alloc2_new w o1 o2)
  · have := heap_alloc_last ((w.alloc o1).alloc o2) o3
    have e : ((w.alloc o1).alloc o2).heap.size = w.heap.size + 2 := by simp
    rw [e] at this
    exact this
theorem alloc4' (w : World) (o1 o2 o3 o4 : Obj) : ∃ W, (((w.alloc o1).alloc o2).alloc o3).alloc o4 = W ∧ Below w.heap.size w W ∧ W.heap[w.heap.size]? = some o1 ∧ W.heap[w.heap.size + 1]? = some o2 ∧ W.heap[w.heap.size + 2]? = some o3 ∧ W.heap[w.heap.size + 3]? = some o4 ∧ W.heap.size = w.heap.size + 4 := by
  obtain ⟨W, rfl, h0, h1, h2, h3, h4⟩ := alloc3 w o1 o2 o3
  have hb := bel1 (((w.alloc o1).alloc o2).alloc o3) o4
  refine ⟨_, rfl, bel_up h0 hb (Nat.le_refl _), bel_row h1 hb, bel_row h2 hb, bel_row h3 hb, ?_, by simp⟩
  have := heap_alloc_last (((w.alloc o1).alloc o2).alloc o3) o4
  rw [h4] at this
  exact this
theorem results_cells_tmp {fn : Func} {p q u : Tmp} {t t' : TypeId} (h : fn.results = #[.cell p t, .cell q t', .tmp u]) (tmps : Array Value) (P : Program) (w : World) :
    (results fn tmps).run P w =
      ((asAddr (tmps.getD p undef)).run P w).andThen fun a w₁ => ((loadVar t a).run P w₁).andThen fun v w₂ => ((asAddr (tmps.getD q undef)).run P w₂).andThen fun a' w₃ => ((loadVar t' a').run P w₃).andThen fun v' w₄ => .ok (.tuple #[v, v', tmps.getD u undef]) w₄ := by
  simp only [results, h]
  simp [Sem.run_bind, Result.andThen]
theorem res32b {fn : Func} {p q u : Tmp} (h : fn.results = #[.cell p 32, .cell q 28, .tmp u]) (tmps : Array Value) (w : World) (g g' : Nat) (a : Option Addr) (c : Nat) (x : M.R) (u0 u1 : Value) (hp : tmps.getD p undef = .pointer (some ⟨g, 0, none⟩)) (hq : tmps.getD q undef = .pointer (some ⟨g', 0, none⟩)) (hg : w.heap[g]? = some (.cells (dvv a c x) 32 (0, 0))) (hg' : w.heap[g']? = some (.cells #[u0, u1] 28 (0, 0))) :
    (results fn tmps).run Try.prog w = .ok (.tuple #[.agg (dvv a c x), .agg #[u0, u1], tmps.getD u undef]) w := by
  have hp' : tmps[p]?.getD undef = .pointer (some ⟨g, 0, none⟩) := by simpa using hp
  have hq' : tmps[q]?.getD undef = .pointer (some ⟨g', 0, none⟩) := by simpa using hq
  rw [results_cells_tmp h]
  simp [asAddr, hp', hq', run_loadVar_row w g 32 32 (dvv a c x) (0, 0) _ hg Try.underlying32 rfl (size32 a c x), run_loadVar_row w g' 28 28 #[u0, u1] (0, 0) _ hg' Try.underlying28 rfl Try.size28]
theorem res32v4 {fn : Func} {p q u : Tmp} (h : fn.results = #[.cell p 32, .cell q 36, .tmp u]) (tmps : Array Value) (w : World) (g g' : Nat) (a : Option Addr) (c : Nat) (x : M.R) (u0 u1 u2 u3 : Value) (hp : tmps.getD p undef = .pointer (some ⟨g, 0, none⟩)) (hq : tmps.getD q undef = .pointer (some ⟨g', 0, none⟩)) (hg : w.heap[g]? = some (.cells (dvv a c x) 32 (0, 0))) (hg' : w.heap[g']? = some (.cells #[u0, u1, u2, u3] 36 (0, 0))) :
    (results fn tmps).run Try.prog w = .ok (.tuple #[.agg (dvv a c x), .agg #[u0, u1, u2, u3], tmps.getD u undef]) w := by
  have hp' : tmps[p]?.getD undef = .pointer (some ⟨g, 0, none⟩) := by simpa using hp
  have hq' : tmps[q]?.getD undef = .pointer (some ⟨g', 0, none⟩) := by simpa using hq
  rw [results_cells_tmp h]
  simp [asAddr, hp', hq', run_loadVar_row w g 32 32 (dvv a c x) (0, 0) _ hg Try.underlying32 rfl (size32 a c x), run_loadVar_row w g' 36 36 #[u0, u1, u2, u3] (0, 0) _ hg' Try.underlying36 rfl Try.size36]
theorem rowD {w : World} {b : Nat} {a : Option Addr} {c : Nat} {x : M.R} (h : w.heap[b]? = some (.cells (dvv a c x) 32 (0, 0))) : (w.cell? ⟨b, 0, none⟩ = some (.int .i64 x.n) ∧ w.cell? ⟨b, 1, none⟩ = some (.int .i64 x.me) ∧ w.cell? ⟨b, 2, none⟩ = some (.int .i64 x.fr) ∧ w.cell? ⟨b, 3, none⟩ = some (.int .i64 x.nx) ∧ w.cell? ⟨b, 4, none⟩ = some (.int .i64 x.b.i) ∧ w.cell? ⟨b, 5, none⟩ = some (.int .i64 x.b.t) ∧ w.cell? ⟨b, 6, none⟩ = some (.bool x.ak) ∧ w.cell? ⟨b, 7, none⟩ = some (.bool x.ld) ∧ w.cell? ⟨b, 8, none⟩ = some (.bool x.fd) ∧ w.cell? ⟨b, 9, none⟩ = some (.bool (x.who 0)) ∧ w.cell? ⟨b, 10, none⟩ = some (.bool (x.who 1)) ∧ w.cell? ⟨b, 11, none⟩ = some (.bool (x.who 2)) ∧ w.cell? ⟨b, 12, none⟩ = some (.bool (x.who 3)) ∧ w.cell? ⟨b, 13, none⟩ = some (.bool (x.who 4)) ∧ w.cell? ⟨b, 14, none⟩ = some (.bool (x.who 5)) ∧ w.cell? ⟨b, 15, none⟩ = some (.bool (x.who 6)) ∧ w.cell? ⟨b, 16, none⟩ = some (.slice a x.l.length c)) ∧ ∀ j, w.frozen? ⟨b, j, none⟩ = false := row17 h
theorem setRow_oth {w : World} {g k : Nat} (cs : Array Value) (h : k ≠ g) : (w.setRow g cs).heap[k]? = w.heap[k]? := setRow_other _ _ _ _ h
/-- What Step leaves. -/
def DSt (w : World) (a : Option Addr) (c : Nat) (x : M.R) (e : E) (z : Ending) (w' : World) : Prop := z = .returned (.tuple #[.agg (dvv a c (M.rss x e)), .bool (M.rsb x e)]) ∧ Below w.heap.size w w'
theorem f20_res : Try.f20.results = #[.cell 4 32, .tmp 5] := rfl
theorem step_eq (a : Option Addr) (c : Nat) (x : M.R) (e : E) : ((((dvv a c x).setIfInBounds 4 (.int .i64 e.i)).setIfInBounds 5 (.int .i64 e.t)).setIfInBounds 6 (.bool false)).setIfInBounds 7 (.bool false) = dvv a c { x with b := e, ak := false, ld := false } := rfl
set_option maxRecDepth 100000 in
set_option maxHeartbeats 1000000 in
theorem rstep_any (a : Option Addr) (c : Nat) (x : M.R) (e : E) (w : World) : Calls Try.prog 20 #[.agg (dvv a c x), bV e] w (DSt w a c x e) := by
  obtain ⟨W1, hW1, hb1, hr0, hr1, hr2, hs1⟩ := alloc3 w (.cells (dvv a c x) 32) (.cells #[.int .i64 e.i, .int .i64 e.t] 28) (.cells Z17 32)
  have HW1 := Hid_of hW1
  have HB1 := Hid_of hb1
  have HR0 := Hid_of hr0
  have HR1 := Hid_of hr1
  have HR2 := Hid_of hr2
  obtain ⟨⟨y0, y1⟩, -⟩ := row2 hr1
  have cv := rvalid_any e W1
  have HNO : Hid (M.rsb x e = false → ∀ w', Below w.heap.size w w' → DSt w a c x e (.returned (.tuple #[.agg (dvv a c x), .bool false])) w') := fun h w' hw' => ⟨by unfold M.rss; rw [h]; rfl, hw'⟩
  clear hW1 hb1 hr0 hr1 hr2
  cases hv : M.vld e with
  | false =>
    have HQ := Hid_of (HNO.out (by unfold M.rsb; rw [hv]; rfl))
    rw [hv] at cv
    clear HNO hv
    go_enter Try.func20, Try.ntmps20
    go_upto_region 1 with fail
    rw [HW1.out]
    clear HW1
    go_wp2_with fail
    refine cv.mono ?_
    clear cv
    rintro z w2 ⟨rfl, hb2⟩
    have q0 := bel_row HR0.out hb2
    have q2 := bel_row HR2.out hb2
    have ld := load32_row q0
    have st := store32_row (w := w2) (b := w.heap.size + 2) (cs := Z17) rfl a c x q2
    have HKB := Hid_of (bel_setRow (bel_up HB1.out hb2 (Nat.le_refl _)) (show w.heap.size ≤ w.heap.size + 2 by omega) (dvv a c x))
    have HKG := Hid_of (setRow32 q2 (dvv a c x))
    clear q0 q2 hb2 y0 y1
    go_wp2
    refine bodyPost_ret (v := .tuple #[.agg (dvv a c x), .bool false]) ?_ rfl (HQ.out _ HKB.out)
    exact res32 f20_res _ _ (w.heap.size + 2) _ _ _ rfl HKG.out
  | true =>
    rw [hv] at cv
    have cr := fun W => rcmp_any e x.b W
    by_cases hc : 0 < M.cmpE e x.b
    · have hd : decide (M.cmpE e x.b ≤ 0) = false := decide_eq_false (by omega)
      have HSB : Hid (M.rsb x e = true) := Hid_of (by unfold M.rsb; rw [hv, decide_eq_true hc]; rfl)
      have HQ : Hid (∀ w', Below w.heap.size w w' → DSt w a c x e (.returned (.tuple #[.agg (dvv a c { x with b := e, ak := false, ld := false }), .bool true])) w') := fun w' hw' => ⟨by unfold M.rss; rw [HSB.out]; rfl, hw'⟩
      generalize M.cmpE e x.b = r at *
      clear HNO hv hc
      go_enter Try.func20, Try.ntmps20
      go_upto_region 1 with fail
      rw [HW1.out]
      clear HW1
      go_wp2_with fail
      refine cv.mono ?_
      clear cv
      rintro z w2 ⟨rfl, hb2⟩
      obtain ⟨⟨c0, c1, c2, c3, c4, c5, c6, c7, c8, c9, c10, c11, c12, c13, c14, c15, c16⟩, -⟩ := rowD (bel_row HR0.out hb2)
      obtain ⟨⟨z0, z1⟩, -⟩ := row2 (bel_row HR1.out hb2)
      have HB2 := Hid_of hb2
      clear hb2 y0 y1
      go_wp2_with fail
      refine (cr _).mono ?_
      clear cr c0 c1 c2 c3 c4 c5 c6 c7 c8 c9 c10 c11 c12 c13 c14 c15 c16 z0 z1
      rintro z w3 ⟨rfl, hb3⟩
      have hb13 := bel_up HB2.out hb3 (Nat.le_refl _)
      have q0 := bel_row HR0.out hb13
      have q2 := bel_row HR2.out hb13
      obtain ⟨⟨z0, z1⟩, -⟩ := row2 (bel_row HR1.out hb13)
      obtain ⟨⟨c0, c1, c2, c3, c4, c5, c6, c7, c8, c9, c10, c11, c12, c13, c14, c15, c16⟩, cf⟩ := rowD q0
      have f4 := cf 4
      have f5 := cf 5
      have f6 := cf 6
      have f7 := cf 7
      have hne : w.heap.size + 2 ≠ w.heap.size := by omega
      have k0 := heap_setCell_same _ w.heap.size 7 _ _ (.bool false) (heap_setCell_same _ w.heap.size 6 _ _ (.bool false) (heap_setCell_same _ w.heap.size 5 _ _ (.int .i64 e.t) (heap_setCell_same w3 w.heap.size 4 _ _ (.int .i64 e.i) q0)))
      rw [step_eq] at k0
      have k2 : ((((w3.setCell ⟨w.heap.size, 4, none⟩ (.int .i64 e.i)).setCell ⟨w.heap.size, 5, none⟩ (.int .i64 e.t)).setCell ⟨w.heap.size, 6, none⟩ (.bool false)).setCell ⟨w.heap.size, 7, none⟩ (.bool false)).heap[w.heap.size + 2]? = some (.cells Z17 32 (0, 0)) := by
        rw [heap_setCell_other _ ⟨w.heap.size, 7, none⟩ _ _ hne, heap_setCell_other _ ⟨w.heap.size, 6, none⟩ _ _ hne, heap_setCell_other _ ⟨w.heap.size, 5, none⟩ _ _ hne, heap_setCell_other _ ⟨w.heap.size, 4, none⟩ _ _ hne]
        exact q2
      have kb : Below w.heap.size w ((((w3.setCell ⟨w.heap.size, 4, none⟩ (.int .i64 e.i)).setCell ⟨w.heap.size, 5, none⟩ (.int .i64 e.t)).setCell ⟨w.heap.size, 6, none⟩ (.bool false)).setCell ⟨w.heap.size, 7, none⟩ (.bool false)) := ((((bel_up HB1.out hb13 (Nat.le_refl _)).setCell (Nat.le_refl _) _).setCell (Nat.le_refl _) _).setCell (Nat.le_refl _) _).setCell (Nat.le_refl _) _
      obtain ⟨W4, HW4⟩ : ∃ W4, Hid ((((w3.setCell ⟨w.heap.size, 4, none⟩ (.int .i64 e.i)).setCell ⟨w.heap.size, 5, none⟩ (.int .i64 e.t)).setCell ⟨w.heap.size, 6, none⟩ (.bool false)).setCell ⟨w.heap.size, 7, none⟩ (.bool false) = W4) := ⟨_, Hid_of rfl⟩
      rw [HW4.out] at k0 k2 kb
      have ld := load32_row k0
      have st := store32_row (w := W4) (b := w.heap.size + 2) (cs := Z17) rfl a c { x with b := e, ak := false, ld := false } k2
      have HKB := Hid_of (bel_setRow kb (show w.heap.size ≤ w.heap.size + 2 by omega) (dvv a c { x with b := e, ak := false, ld := false }))
      have HKG := Hid_of (setRow32 k2 (dvv a c { x with b := e, ak := false, ld := false }))
      generalize ({ x with b := e, ak := false, ld := false } : M.R) = x2 at *
      clear q0 q2 k0 k2 kb hb3 hb13 cf
      go_upto_region 6 with fail
      rw [HW4.out]
      clear HW4 c0 c1 c2 c3 c4 c5 c6 c7 c8 c9 c10 c11 c12 c13 c14 c15 c16 f4 f5 f6 f7 z0 z1
      go_wp2
      refine bodyPost_ret (v := .tuple #[.agg (dvv a c x2), .bool true]) ?_ rfl (HQ.out _ HKB.out)
      exact res32 f20_res _ _ (w.heap.size + 2) _ _ _ rfl HKG.out
    · have hd : decide (M.cmpE e x.b ≤ 0) = true := decide_eq_true (by omega)
      have HQ := Hid_of (HNO.out (by unfold M.rsb; rw [hv, decide_eq_false hc]; rfl))
      generalize M.cmpE e x.b = r at *
      clear HNO hv hc
      go_enter Try.func20, Try.ntmps20
      go_upto_region 1 with fail
      rw [HW1.out]
      clear HW1
      go_wp2_with fail
      refine cv.mono ?_
      clear cv
      rintro z w2 ⟨rfl, hb2⟩
      obtain ⟨⟨c0, c1, c2, c3, c4, c5, c6, c7, c8, c9, c10, c11, c12, c13, c14, c15, c16⟩, -⟩ := rowD (bel_row HR0.out hb2)
      obtain ⟨⟨z0, z1⟩, -⟩ := row2 (bel_row HR1.out hb2)
      have HB2 := Hid_of hb2
      clear hb2 y0 y1
      go_wp2_with fail
      refine (cr _).mono ?_
      clear cr c0 c1 c2 c3 c4 c5 c6 c7 c8 c9 c10 c11 c12 c13 c14 c15 c16 z0 z1
      rintro z w3 ⟨rfl, hb3⟩
      have hb13 := bel_up HB2.out hb3 (Nat.le_refl _)
      have q0 := bel_row HR0.out hb13
      have q2 := bel_row HR2.out hb13
      have ld := load32_row q0
      have st := store32_row (w := w3) (b := w.heap.size + 2) (cs := Z17) rfl a c x q2
      have HKB := Hid_of (bel_setRow (bel_up HB1.out hb13 (Nat.le_refl _)) (show w.heap.size ≤ w.heap.size + 2 by omega) (dvv a c x))
      have HKG := Hid_of (setRow32 q2 (dvv a c x))
      clear q0 q2 hb3 hb13
      go_wp2
      refine bodyPost_ret (v := .tuple #[.agg (dvv a c x), .bool false]) ?_ rfl (HQ.out _ HKB.out)
      exact res32 f20_res _ _ (w.heap.size + 2) _ _ _ rfl HKG.out

end Go.Proofs.Ytpolmfgklgggcaa
