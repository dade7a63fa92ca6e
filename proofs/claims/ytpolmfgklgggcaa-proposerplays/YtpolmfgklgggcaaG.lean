/-
  The vote of the greatest ballot, as the program finds it and as the document tells it.
-/
import Derived.Test.YtpolmfgklgggcaaF
import Derived.Test.YtpolmfgklgggcaaSB
namespace Go.Proofs.Ytpolmfgklgggcaa
open Go.RowKit
set_option linter.unusedVariables false
open M (E V)

/-- Four cells of a block set. -/
def put4 (w : World) (g : Nat) (a b c d : Value) : World := (((w.setCell ⟨g, 0, none⟩ a).setCell ⟨g, 1, none⟩ b).setCell ⟨g, 2, none⟩ c).setCell ⟨g, 3, none⟩ d
theorem put4_row {w : World} {g : Nat} {t : TypeId} {v0 v1 v2 v3 : Value} (h : w.heap[g]? = some (.cells #[v0, v1, v2, v3] t (0, 0))) (a b c d : Value) : (put4 w g a b c d).heap[g]? = some (.cells #[a, b, c, d] t (0, 0)) :=
  heap_setCell_same _ g 3 _ _ _ (heap_setCell_same _ g 2 _ _ _ (heap_setCell_same _ g 1 _ _ _ (heap_setCell_same w g 0 _ _ _ h)))
theorem put4_bel {w0 w : World} {B g : Nat} (h : Below B w0 w) (hg : B ≤ g) (a b c d : Value) : Below B w0 (put4 w g a b c d) := (((h.setCell hg _).setCell hg _).setCell hg _).setCell hg _
theorem put4_oth {w : World} {g k : Nat} (h : k ≠ g) (a b c d : Value) : (put4 w g a b c d).heap[k]? = w.heap[k]? := by
  unfold put4
  rw [heap_setCell_other _ ⟨g, 3, none⟩ k _ h, heap_setCell_other _ ⟨g, 2, none⟩ k _ h, heap_setCell_other _ ⟨g, 1, none⟩ k _ h, heap_setCell_other _ ⟨g, 0, none⟩ k _ h]
theorem res4 {fn : Func} {p u : Tmp} (h : fn.results = #[.cell p 36, .tmp u]) (tmps : Array Value) (w : World) (g : Nat) (v0 v1 v2 v3 : Value) (hp : tmps.getD p undef = .pointer (some ⟨g, 0, none⟩)) (hg : w.heap[g]? = some (.cells #[v0, v1, v2, v3] 36 (0, 0))) :
    (results fn tmps).run Try.prog w = .ok (.tuple #[.agg #[v0, v1, v2, v3], tmps.getD u undef]) w := by
  have hp' : tmps[p]?.getD undef = .pointer (some ⟨g, 0, none⟩) := by simpa using hp
  rw [results_cell_tmp h]
  simp [asAddr, hp', run_loadVar_row w g 36 36 #[v0, v1, v2, v3] (0, 0) _ hg Try.underlying36 rfl Try.size36]
set_option maxRecDepth 100000 in
set_option maxHeartbeats 400000 in
theorem eq36 (s i t : Int) (v : ByteArray) (w : World) : (binOp .eql 36 (.agg #[.int .i64 s, .int .i64 i, .int .i64 t, .string v]) (.agg #[.int .i64 s, .int .i64 i, .int .i64 t, .string v])).run Try.prog w = .ok (.bool true) w := by
  have u3 := Try.underlying3
  have u9 := Try.underlying9
  have a3 := Try.isAgg3
  have a9 := Try.isAgg9
  have a28 := Try.isAgg28
  have z3 := Try.sizeOf3
  have z9 := Try.sizeOf9
  have z28 := Try.sizeOf28
  have hS : Try.prog.underlying 36 = some (.struct (Try.prog.fieldsOf 36)) := by kernel_rfl
  have hp : Try.prog.stoodInHeld 36 = false := by kernel_rfl
  have hS2 : Try.prog.underlying 28 = some (.struct (Try.prog.fieldsOf 28)) := by kernel_rfl
  have hp2 : Try.prog.stoodInHeld 28 = false := by kernel_rfl
  have h2 : (Op.equalIn 9998 28 (.agg #[.int .i64 i, .int .i64 t]) (.agg #[.int .i64 i, .int .i64 t])).run Try.prog w = .ok true w := by
    rw [show (9998 : Nat) = 9997 + 1 from rfl, run_equalIn_agg w 9997 28 _ _ hS2 hp2]
    simp only [Program.fieldsOf, Try.underlying28]
    go_simp
  clear hS2 hp2
  rw [run_eql_struct, show (10000 : Nat) = 9999 + 1 from rfl, run_equalIn_agg w 9999 36 _ _ hS hp]
  clear hS hp
  simp only [Program.fieldsOf, Try.underlying36]
  go_simp
theorem f42_res : Try.f42.results = #[.cell 2 36, .tmp 3] := rfl
set_option maxRecDepth 100000 in
set_option maxHeartbeats 1000000 in
theorem pick_any (a : Option Addr) (cap : Nat) (l : List V) (w : World) (hat : AtL vl w a l) (hl : l.length ≤ 1000000) (hv : ∀ x ∈ l, x.v.size ≤ 140737488351232) :
    Calls Try.prog 42 #[.slice a l.length cap] w fun e w' => e = .returned (.tuple #[.agg #[.int .i64 (M.vx l l.length).s, .int .i64 (M.vx l l.length).b.i, .int .i64 (M.vx l l.length).b.t, .string (M.vx l l.length).v], .bool (decide (0 < l.length))]) ∧ Below w.heap.size w w' := by
  obtain ⟨z, HZ⟩ : ∃ z, Hid (M.vx l l.length = z) := ⟨_, Hid_of rfl⟩
  rw [HZ.out]
  obtain ⟨nz, HNZ⟩ : ∃ nz, Hid (decide (0 < l.length) = nz) := ⟨_, Hid_of rfl⟩
  rw [HNZ.out]
  have hr1 := heap_alloc_last w (.cells #[.int .i64 0, .int .i64 0, .int .i64 0, .string ⟨#[]⟩] 36)
  obtain ⟨W1, HW1⟩ : ∃ W1, Hid (w.alloc (.cells #[.int .i64 0, .int .i64 0, .int .i64 0, .string ⟨#[]⟩] 36) = W1) := ⟨_, Hid_of rfl⟩
  have HB1 : Hid (Below w.heap.size w W1) := by rw [← HW1.out]; exact bel1 w _
  rw [HW1.out] at hr1
  have HR1 := Hid_of hr1
  clear hr1
  go_enter Try.func42, Try.ntmps42
  go_upto_region 1 with fail
  rw [HW1.out]
  clear HW1
  go_wp2_with fail
  refine (ballots_any a cap l W1 (hat.keep HB1.out) hl).mono ?_
  rintro e w2 ⟨a2, rfl, hat2, hb2⟩
  have hlm : (l.map V.b).length = l.length := by simp
  have hg := greatest_any a2 l.length (l.map V.b) w2 hat2 (by omega)
  rw [hlm] at hg
  have HB2 := Hid_of (bel_up HB1.out hb2 (Nat.le_refl _))
  have HR2 := Hid_of (bel_row HR1.out hb2)
  clear hb2 hlm hat2 HB1 HR1
  go_wp2_with fail
  refine hg.mono ?_
  clear hg
  rintro e w3 ⟨rfl, hb3⟩
  have HB3 := Hid_of (bel_up HB2.out hb3 (Nat.le_refl _))
  have hr3 := bel_row HR2.out hb3
  have HR3 := Hid_of hr3
  obtain ⟨⟨x0, x1, x2, x3⟩, xf⟩ := row4 hr3
  have f0 := xf 0
  have f1 := xf 1
  have f2 := xf 2
  have f3 := xf 3
  have hat3 := hat.keep HB3.out
  clear xf hr3 hat HB2 HR2 hb3
  rcases Nat.eq_zero_or_pos l.length with h0 | h0
  · have e1 : M.bi (l.map V.b) l.length = -1 := by rw [h0]; rfl
    obtain rfl : z = ⟨0, ⟨0, 0⟩, ⟨#[]⟩⟩ := by rw [← HZ.out, h0]; rfl
    obtain rfl : nz = false := by rw [← HNZ.out, h0]; rfl
    rw [e1]
    clear e1 hat3 h0 HZ HNZ hv
    go_wp2
    refine bodyPost_ret (v := .tuple #[.agg #[.int .i64 0, .int .i64 0, .int .i64 0, .string ⟨#[]⟩], .bool false]) ?_ rfl ⟨rfl, put4_bel HB3.out (Nat.le_refl _) _ _ _ _⟩
    exact res4 f42_res _ _ w.heap.size _ _ _ _ rfl (put4_row HR3.out _ _ _ _)
  · have hp := M.bst_lt (l.map V.b) l.length h0
    have e1 := M.bi_pos (l.map V.b) h0
    have e2 := M.vx_pos l h0 (Nat.le_refl _)
    rw [HZ.out] at e2
    obtain rfl : nz = true := by rw [← HNZ.out]; exact decide_eq_true h0
    rw [e1]
    obtain ⟨b, off, rfl, c0, c1, c2, c3⟩ := hat3.getV (M.bst (l.map V.b) l.length) hp
    rw [← e2] at c0 c1 c2 c3
    have hzv : z.v.size ≤ 140737488351232 := hv z (by rw [e2]; exact List.getElem_mem _)
    clear e1 e2 hat3 h0 HZ HNZ hv
    generalize M.bst (l.map V.b) l.length = p at *
    have hpi : (p : Int) < (l.length : Int) := by omega
    have hp0 : decide ((p : Int) < 0) = false := decide_eq_false (by omega)
    have hr4 := heap_alloc_last w3 (.cells #[.int .i64 z.s, .int .i64 z.b.i, .int .i64 z.b.t, .string z.v] 36)
    obtain ⟨W4, HW4⟩ : ∃ W4, Hid (w3.alloc (.cells #[.int .i64 z.s, .int .i64 z.b.i, .int .i64 z.b.t, .string z.v] 36) = W4) := ⟨_, Hid_of rfl⟩
    have HB4 : Hid (Below w3.heap.size w3 W4) := by rw [← HW4.out]; exact bel1 w3 _
    rw [HW4.out] at hr4
    have HR4 := Hid_of hr4
    obtain ⟨⟨y0, y1, y2, y3⟩, -⟩ := row4 hr4
    clear hr4
    go_upto_region 5 with fail
    rw [HW4.out]
    clear HW4 c0 c1 c2 c3 x0 x1 x2 x3 f0 f1 f2 f3
    go_wp2_with fail
    refine (sclone_any z.v W4 hzv).mono ?_
    rintro e w5 ⟨rfl, hb5⟩
    have hq5 := bel_row HR4.out hb5
    have hR5 := bel_row (bel_row HR3.out HB4.out) hb5
    have HB5 := Hid_of (bel_up (bel_up HB3.out HB4.out (Nat.le_refl _)) hb5 (Nat.le_refl _))
    have hne : w3.heap.size ≠ w.heap.size := by
      have := (Array.getElem?_eq_some_iff.1 HR3.out).1
      omega
    obtain ⟨⟨d0, d1, d2, d3⟩, df⟩ := row4 hq5
    have g3 := df 3
    have hq6 : (w5.setCell ⟨w3.heap.size, 3, none⟩ (.string z.v)).heap[w3.heap.size]? = some (.cells #[.int .i64 z.s, .int .i64 z.b.i, .int .i64 z.b.t, .string z.v] 36 (0, 0)) := heap_setCell_same w5 _ 3 _ _ _ hq5
    have hR6 : (w5.setCell ⟨w3.heap.size, 3, none⟩ (.string z.v)).heap[w.heap.size]? = some (.cells #[.int .i64 0, .int .i64 0, .int .i64 0, .string ⟨#[]⟩] 36 (0, 0)) := (heap_setCell_other w5 ⟨w3.heap.size, 3, none⟩ _ _ (Ne.symm hne)).trans hR5
    have HB6 : Hid (Below w.heap.size w (w5.setCell ⟨w3.heap.size, 3, none⟩ (.string z.v))) := Hid_of (HB5.out.setCell (HB3.out.size) _)
    obtain ⟨W6, HW6⟩ : ∃ W6, Hid (w5.setCell ⟨w3.heap.size, 3, none⟩ (.string z.v) = W6) := ⟨_, Hid_of rfl⟩
    rw [HW6.out] at hq6 hR6 HB6
    have HR6 := Hid_of hR6
    obtain ⟨⟨k0, k1, k2, k3⟩, -⟩ := row4 hq6
    obtain ⟨⟨x0, x1, x2, x3⟩, xf⟩ := row4 hR6
    have f0 := xf 0
    have f1 := xf 1
    have f2 := xf 2
    have f3 := xf 3
    clear xf df hq5 hR5 hq6 hR6 hb5 hne y0 y1 y2 y3 HB5 HR4 HR3 HB4
    go_upto_region 6 with fail
    rw [HW6.out]
    clear HW6 d0 d1 d2 d3 g3
    go_wp2
    refine bodyPost_ret (v := .tuple #[.agg #[.int .i64 z.s, .int .i64 z.b.i, .int .i64 z.b.t, .string z.v], .bool true]) ?_ rfl ⟨rfl, put4_bel HB6.out (Nat.le_refl _) _ _ _ _⟩
    exact res4 f42_res _ _ w.heap.size _ _ _ _ rfl (put4_row HR6.out _ _ _ _)

theorem f37_res : Try.f37.results = #[.cell 2 36, .tmp 3] := rfl
set_option maxRecDepth 100000 in
set_option maxHeartbeats 1000000 in
theorem rpick_any (a : Option Addr) (cap : Nat) (l : List V) (w : World) (hat : AtL vl w a l) (hl : l.length ≤ 1000000) :
    Calls Try.prog 37 #[.slice a l.length cap] w fun e w' => e = .returned (.tuple #[.agg #[.int .i64 (M.vx l l.length).s, .int .i64 (M.vx l l.length).b.i, .int .i64 (M.vx l l.length).b.t, .string (M.vx l l.length).v], .bool (decide (0 < l.length))]) ∧ Below w.heap.size w w' := by
  have HW0 : Hid (Below w.heap.size w ((w.alloc (.cells #[.int .i64 0, .int .i64 0, .int .i64 0, .string ⟨#[]⟩] 36)).alloc (.cells #[.int .i64 0, .int .i64 0, .int .i64 0, .string ⟨#[]⟩] 36)) ∧ ((w.alloc (.cells #[.int .i64 0, .int .i64 0, .int .i64 0, .string ⟨#[]⟩] 36)).alloc (.cells #[.int .i64 0, .int .i64 0, .int .i64 0, .string ⟨#[]⟩] 36)).heap[w.heap.size]? = some (.cells #[.int .i64 0, .int .i64 0, .int .i64 0, .string ⟨#[]⟩] 36 (0, 0)) ∧ ((w.alloc (.cells #[.int .i64 0, .int .i64 0, .int .i64 0, .string ⟨#[]⟩] 36)).alloc (.cells #[.int .i64 0, .int .i64 0, .int .i64 0, .string ⟨#[]⟩] 36)).heap[w.heap.size + 1]? = some (.cells #[.int .i64 0, .int .i64 0, .int .i64 0, .string ⟨#[]⟩] 36 (0, 0))) := ⟨bel_up (bel1 w _) (bel1 _ _) (Nat.le_refl _), heap_alloc2_old w _ _, heap_alloc2_new w _ _⟩
  go_enter Try.func37, Try.ntmps37
  go_wp2
  go_loopw [5] (fun i wr => ∃ k : Nat, k ≤ l.length ∧ i = .int .i64 k ∧ Below w.heap.size w wr ∧ wr.heap[w.heap.size]? = some (.cells #[.int .i64 0, .int .i64 0, .int .i64 0, .string ⟨#[]⟩] 36 (0, 0)) ∧ wr.heap[w.heap.size + 1]? = some (.cells #[.int .i64 (M.vx l k).s, .int .i64 (M.vx l k).b.i, .int .i64 (M.vx l k).b.t, .string (M.vx l k).v] 36 (0, 0))) (fun i _ => l.length - (intOf i).toNat)
  case atStart => exact ⟨0, by omega, rfl, HW0.out.1, HW0.out.2.1, HW0.out.2.2⟩
  case round =>
    obtain ⟨k, hk, rfl, hb, hr0, hr1⟩ := hrel
    have HB := Hid_of hb
    have HR0 := Hid_of hr0
    have HR1 := Hid_of hr1
    by_cases hlt : k < l.length
    · have hki : (k : Int) < (l.length : Int) := by omega
      obtain ⟨x, HX⟩ : ∃ x, Hid (l[k] = x) := ⟨_, Hid_of rfl⟩
      obtain ⟨y, HY⟩ : ∃ y, Hid (M.vx l k = y) := ⟨_, Hid_of rfl⟩
      obtain ⟨r, HR⟩ : ∃ r, Hid (M.cmpE x.b y.b = r) := ⟨_, Hid_of rfl⟩
      have hst := M.vx_step l k hlt
      rw [HY.out] at hst hr1
      rw [HX.out, HR.out] at hst
      obtain ⟨b, off, rfl, -, -, -, -⟩ := hat.getV k hlt
      have HK : Hid (∀ w', Below wr.heap.size wr w' → (w'.cell? ⟨b, off + k * 4, none⟩ = some (.int .i64 x.s) ∧ w'.cell? ⟨b, off + k * 4 + 1, none⟩ = some (.int .i64 x.b.i) ∧ w'.cell? ⟨b, off + k * 4 + 2, none⟩ = some (.int .i64 x.b.t) ∧ w'.cell? ⟨b, off + k * 4 + 3, none⟩ = some (.string x.v)) ∧ (w'.cell? ⟨w.heap.size + 1, 0, none⟩ = some (.int .i64 y.s) ∧ w'.cell? ⟨w.heap.size + 1, 1, none⟩ = some (.int .i64 y.b.i) ∧ w'.cell? ⟨w.heap.size + 1, 2, none⟩ = some (.int .i64 y.b.t) ∧ w'.cell? ⟨w.heap.size + 1, 3, none⟩ = some (.string y.v)) ∧ w'.heap[w.heap.size]? = some (.cells #[.int .i64 0, .int .i64 0, .int .i64 0, .string ⟨#[]⟩] 36 (0, 0)) ∧ w'.heap[w.heap.size + 1]? = some (.cells #[.int .i64 y.s, .int .i64 y.b.i, .int .i64 y.b.t, .string y.v] 36 (0, 0))) := fun w' hw' => by
        obtain ⟨b', off', e, y0, y1, y2, y3⟩ := (hat.keep (bel_up HB.out hw' (Nat.le_refl _))).getV k hlt
        cases e
        rw [HX.out] at y0 y1 y2 y3
        exact ⟨⟨y0, y1, y2, y3⟩, (row4 (bel_row hr1 hw')).1, bel_row hr0 hw', bel_row hr1 hw'⟩
      have HS : Hid (∀ w', Below wr.heap.size wr w' → (w'.cell? ⟨b, off + k * 4, none⟩ = some (.int .i64 x.s) ∧ w'.cell? ⟨b, off + k * 4 + 1, none⟩ = some (.int .i64 x.b.i) ∧ w'.cell? ⟨b, off + k * 4 + 2, none⟩ = some (.int .i64 x.b.t) ∧ w'.cell? ⟨b, off + k * 4 + 3, none⟩ = some (.string x.v)) ∧ (w'.cell? ⟨w.heap.size + 1, 0, none⟩ = some (.int .i64 y.s) ∧ w'.cell? ⟨w.heap.size + 1, 1, none⟩ = some (.int .i64 y.b.i) ∧ w'.cell? ⟨w.heap.size + 1, 2, none⟩ = some (.int .i64 y.b.t) ∧ w'.cell? ⟨w.heap.size + 1, 3, none⟩ = some (.string y.v))) := fun w' hw' => ⟨(HK.out w' hw').1, (HK.out w' hw').2.1⟩
      have HST := Hid_of hst
      clear hat hb hr0 hr1 HX hst HY HR0 HR1
      rcases Nat.eq_zero_or_pos k with h0 | h0
      · subst h0
        have HE := Hid_of (HST.out.1 (.inl rfl))
        simp only [Nat.zero_mul, Nat.add_zero] at HK HS
        clear HST HW0
        go_upto_region 5 with fail
        refine wp_region_held_drew (S := fun wq => Below (wr).heap.size (wr) wq) (by kernel_rfl) (Below.drew (Below.refl _ _)) (fun hHeld => ?_)
        refine wpAnyH_take (i := 0) (oi := ?p0z) (v := ?v0z) ?o0z (by kernel_rfl) (by kernel_rfl) (by kernel_rfl) ?q0z ?y0z hHeld ?r0z
        case o0z => simp only [List.getElem?_toArray, List.getElem?_cons_zero]; rfl
        case q0z => exact fun _ _ _ h => h
        case y0z => (refine Or.inl ⟨rfl, ?_⟩; intro wq hq; obtain ⟨⟨a0, a1, a2, a3⟩, ⟨b0, b1, b2, b3⟩⟩ := HS.out wq hq; go_simp; try with_reducible rfl)
        simp only [Act.put, List.setIfInBounds_toArray, List.set_cons_zero, List.set_cons_succ]
        refine wpAnyH_take (i := 1) (oi := ?p1z) (v := ?v1z) ?o1z (by kernel_rfl) (by kernel_rfl) (by kernel_rfl) ?q1z ?y1z hHeld ?r1z
        case o1z => simp only [List.getElem?_toArray, List.getElem?_cons_succ, List.getElem?_cons_zero]; rfl
        case q1z => exact fun _ _ _ h => h
        case y1z => (refine Or.inl ⟨rfl, ?_⟩; intro wq hq; obtain ⟨⟨a0, a1, a2, a3⟩, ⟨b0, b1, b2, b3⟩⟩ := HS.out wq hq; go_simp; try with_reducible rfl)
        simp only [Act.put, List.setIfInBounds_toArray, List.set_cons_zero, List.set_cons_succ]
        refine wpAnyH_take (i := 2) (oi := ?p2z) (v := ?v2z) ?o2z (by kernel_rfl) (by kernel_rfl) (by kernel_rfl) ?q2z ?y2z hHeld ?r2z
        case o2z => simp only [List.getElem?_toArray, List.getElem?_cons_succ, List.getElem?_cons_zero]; rfl
        case q2z => exact fun _ _ _ h => h
        case y2z => (refine Or.inl ⟨rfl, ?_⟩; intro wq hq; obtain ⟨⟨a0, a1, a2, a3⟩, ⟨b0, b1, b2, b3⟩⟩ := HS.out wq hq; go_simp; try with_reducible rfl)
        simp only [Act.put, List.setIfInBounds_toArray, List.set_cons_zero, List.set_cons_succ]
        refine wpAnyH_take (i := 3) (oi := ?p3z) (v := undef) ?o3z (by kernel_rfl) (by kernel_rfl) (by kernel_rfl) ?q3z ?y3z hHeld ?r3z
        case o3z => simp only [List.getElem?_toArray, List.getElem?_cons_succ, List.getElem?_cons_zero]; rfl
        case q3z => exact fun _ _ _ h => h
        case y3z => exact Or.inr ⟨rfl, rfl⟩
        simp only [Act.put, List.setIfInBounds_toArray, List.set_cons_zero, List.set_cons_succ]
        refine wpAnyH_take (i := 4) (oi := ?p4z) (v := undef) ?o4z (by kernel_rfl) (by kernel_rfl) (by kernel_rfl) ?q4z ?y4z hHeld ?r4z
        case o4z => simp only [List.getElem?_toArray, List.getElem?_cons_succ, List.getElem?_cons_zero]; rfl
        case q4z => exact fun _ _ _ h => h
        case y4z => exact Or.inr ⟨rfl, rfl⟩
        simp only [Act.put, List.setIfInBounds_toArray, List.set_cons_zero, List.set_cons_succ]
        refine wpAnyH_take (i := 5) (oi := ?p5z) (v := undef) ?o5z (by kernel_rfl) (by kernel_rfl) (by kernel_rfl) ?q5z ?y5z hHeld ?r5z
        case o5z => simp only [List.getElem?_toArray, List.getElem?_cons_succ, List.getElem?_cons_zero]; rfl
        case q5z => exact fun _ _ _ h => h
        case y5z => exact Or.inr ⟨rfl, rfl⟩
        simp only [Act.put, List.setIfInBounds_toArray, List.set_cons_zero, List.set_cons_succ]
        refine wpAnyH_take (i := 6) (oi := ?p6z) (v := undef) ?o6z (by kernel_rfl) (by kernel_rfl) (by kernel_rfl) ?q6z ?y6z hHeld ?r6z
        case o6z => simp only [List.getElem?_toArray, List.getElem?_cons_succ, List.getElem?_cons_zero]; rfl
        case q6z => exact fun _ _ _ h => h
        case y6z => exact Or.inr ⟨rfl, rfl⟩
        simp only [Act.put, List.setIfInBounds_toArray, List.set_cons_zero, List.set_cons_succ]
        refine wpAnyH_take (i := 7) (oi := ?p7z) (v := undef) ?o7z (by kernel_rfl) (by kernel_rfl) (by kernel_rfl) ?q7z ?y7z hHeld ?r7z
        case o7z => simp only [List.getElem?_toArray, List.getElem?_cons_succ, List.getElem?_cons_zero]; rfl
        case q7z => exact fun _ _ _ h => h
        case y7z => exact Or.inr ⟨rfl, rfl⟩
        simp only [Act.put, List.setIfInBounds_toArray, List.set_cons_zero, List.set_cons_succ]
        refine wpAnyH_take (i := 8) (oi := ?p8z) (v := undef) ?o8z (by kernel_rfl) (by kernel_rfl) (by kernel_rfl) ?q8z ?y8z hHeld ?r8z
        case o8z => simp only [List.getElem?_toArray, List.getElem?_cons_succ, List.getElem?_cons_zero]; rfl
        case q8z => exact fun _ _ _ h => h
        case y8z => exact Or.inr ⟨rfl, rfl⟩
        simp only [Act.put, List.setIfInBounds_toArray, List.set_cons_zero, List.set_cons_succ]
        refine wpAnyH_take (i := 9) (oi := ?p9z) (v := undef) ?o9z (by kernel_rfl) (by kernel_rfl) (by kernel_rfl) ?q9z ?y9z hHeld ?r9z
        case o9z => simp only [List.getElem?_toArray, List.getElem?_cons_succ, List.getElem?_cons_zero]; rfl
        case q9z => exact fun _ _ _ h => h
        case y9z => exact Or.inr ⟨rfl, rfl⟩
        simp only [Act.put, List.setIfInBounds_toArray, List.set_cons_zero, List.set_cons_succ]
        refine wpAnyH_take (i := 10) (oi := ?p10z) (v := undef) ?o10z (by kernel_rfl) (by kernel_rfl) (by kernel_rfl) ?q10z ?y10z hHeld ?r10z
        case o10z => simp only [List.getElem?_toArray, List.getElem?_cons_succ, List.getElem?_cons_zero]; rfl
        case q10z => exact fun _ _ _ h => h
        case y10z => exact Or.inr ⟨rfl, rfl⟩
        simp only [Act.put, List.setIfInBounds_toArray, List.set_cons_zero, List.set_cons_succ]
        refine wpAnyH_take (i := 11) (oi := ?p11z) (v := undef) ?o11z (by kernel_rfl) (by kernel_rfl) (by kernel_rfl) ?q11z ?y11z hHeld ?r11z
        case o11z => simp only [List.getElem?_toArray, List.getElem?_cons_succ, List.getElem?_cons_zero]; rfl
        case q11z => exact fun _ _ _ h => h
        case y11z => exact Or.inr ⟨rfl, rfl⟩
        simp only [Act.put, List.setIfInBounds_toArray, List.set_cons_zero, List.set_cons_succ]
        refine wpAnyH_take (i := 12) (oi := ?p12z) (v := ?v12z) ?o12z (by kernel_rfl) (by kernel_rfl) (by kernel_rfl) ?q12z ?y12z hHeld ?r12z
        case o12z => simp only [List.getElem?_toArray, List.getElem?_cons_succ, List.getElem?_cons_zero]; rfl
        case q12z => exact fun _ _ _ h => h
        case y12z => (refine Or.inl ⟨rfl, ?_⟩; intro wq hq; obtain ⟨⟨a0, a1, a2, a3⟩, ⟨b0, b1, b2, b3⟩⟩ := HS.out wq hq; go_simp; try with_reducible rfl)
        simp only [Act.put, List.setIfInBounds_toArray, List.set_cons_zero, List.set_cons_succ]
        refine wpAnyH_done (by kernel_rfl) ?_ _
        generalize wr.drew = wq at *
        obtain ⟨hx, hy, hR, hB⟩ := HK.out _ hHeld
        obtain ⟨⟨y0, y1, y2, y3⟩, yf⟩ := row4 hB
        have f0 := yf 0
        have f1 := yf 1
        have f2 := yf 2
        have f3 := yf 3
        have HBq := Hid_of (bel_up HB.out hHeld (Nat.le_refl _))
        have HRq := Hid_of ((put4_oth (show w.heap.size ≠ w.heap.size + 1 by omega) (.int .i64 x.s) (.int .i64 x.b.i) (.int .i64 x.b.t) (.string x.v)).trans hR)
        have HBB := Hid_of (put4_row hB (.int .i64 x.s) (.int .i64 x.b.i) (.int .i64 x.b.t) (.string x.v))
        obtain ⟨x0, x1, x2, x3⟩ := hx
        clear hy hR hB yf
        go_wp2
        go_roundw
        case rel => exact ⟨1, by omega, by go_num, put4_bel HBq.out (by omega) _ _ _ _, HRq.out, by rw [HE.out]; exact HBB.out⟩
        case measure => simp [intOf]; omega
      · have hk0 : ((k : Int) == 0) = false := by simp; omega
        by_cases hr : 0 < r
        · have HE := Hid_of (HST.out.1 (.inr hr))
          have dr : decide (0 < r) = true := decide_eq_true hr
          clear HST hr HW0
          go_upto_region 5 with fail
          refine wp_region_held_drew (S := fun wq => Below (wr).heap.size (wr) wq) (by kernel_rfl) (Below.drew (Below.refl _ _)) (fun hHeld => ?_)
          refine wpAnyH_take (i := 0) (oi := ?p0a) (v := ?v0a) ?o0a (by kernel_rfl) (by kernel_rfl) (by kernel_rfl) ?q0a ?y0a hHeld ?r0a
          case o0a => simp only [List.getElem?_toArray, List.getElem?_cons_zero]; rfl
          case q0a => exact fun _ _ _ h => h
          case y0a => (refine Or.inl ⟨rfl, ?_⟩; intro wq hq; obtain ⟨⟨a0, a1, a2, a3⟩, ⟨b0, b1, b2, b3⟩⟩ := HS.out wq hq; go_simp; try with_reducible rfl)
          simp only [Act.put, List.setIfInBounds_toArray, List.set_cons_zero, List.set_cons_succ]
          refine wpAnyH_take (i := 1) (oi := ?p1a) (v := ?v1a) ?o1a (by kernel_rfl) (by kernel_rfl) (by kernel_rfl) ?q1a ?y1a hHeld ?r1a
          case o1a => simp only [List.getElem?_toArray, List.getElem?_cons_succ, List.getElem?_cons_zero]; rfl
          case q1a => exact fun _ _ _ h => h
          case y1a => (refine Or.inl ⟨rfl, ?_⟩; intro wq hq; obtain ⟨⟨a0, a1, a2, a3⟩, ⟨b0, b1, b2, b3⟩⟩ := HS.out wq hq; go_simp; try with_reducible rfl)
          simp only [Act.put, List.setIfInBounds_toArray, List.set_cons_zero, List.set_cons_succ]
          refine wpAnyH_take (i := 2) (oi := ?p2a) (v := ?v2a) ?o2a (by kernel_rfl) (by kernel_rfl) (by kernel_rfl) ?q2a ?y2a hHeld ?r2a
          case o2a => simp only [List.getElem?_toArray, List.getElem?_cons_succ, List.getElem?_cons_zero]; rfl
          case q2a => exact fun _ _ _ h => h
          case y2a => (refine Or.inl ⟨rfl, ?_⟩; intro wq hq; obtain ⟨⟨a0, a1, a2, a3⟩, ⟨b0, b1, b2, b3⟩⟩ := HS.out wq hq; go_simp; try with_reducible rfl)
          simp only [Act.put, List.setIfInBounds_toArray, List.set_cons_zero, List.set_cons_succ]
          refine wpAnyH_take (i := 3) (oi := ?p3a) (v := ?v3a) ?o3a (by kernel_rfl) (by kernel_rfl) (by kernel_rfl) ?q3a ?y3a hHeld ?r3a
          case o3a => simp only [List.getElem?_toArray, List.getElem?_cons_succ, List.getElem?_cons_zero]; rfl
          case q3a => exact fun _ _ _ h => h
          case y3a => (refine Or.inl ⟨rfl, ?_⟩; intro wq hq; obtain ⟨⟨a0, a1, a2, a3⟩, ⟨b0, b1, b2, b3⟩⟩ := HS.out wq hq; go_simp; try with_reducible rfl)
          simp only [Act.put, List.setIfInBounds_toArray, List.set_cons_zero, List.set_cons_succ]
          refine wpAnyH_take (i := 4) (oi := ?p4a) (v := ?v4a) ?o4a (by kernel_rfl) (by kernel_rfl) (by kernel_rfl) ?q4a ?y4a hHeld ?r4a
          case o4a => simp only [List.getElem?_toArray, List.getElem?_cons_succ, List.getElem?_cons_zero]; rfl
          case q4a => exact fun _ _ _ h => h
          case y4a => (refine Or.inl ⟨rfl, ?_⟩; intro wq hq; obtain ⟨⟨a0, a1, a2, a3⟩, ⟨b0, b1, b2, b3⟩⟩ := HS.out wq hq; go_simp; try with_reducible rfl)
          simp only [Act.put, List.setIfInBounds_toArray, List.set_cons_zero, List.set_cons_succ]
          refine wpAnyH_take (i := 5) (oi := ?p5a) (v := ?v5a) ?o5a (by kernel_rfl) (by kernel_rfl) (by kernel_rfl) ?q5a ?y5a hHeld ?r5a
          case o5a => simp only [List.getElem?_toArray, List.getElem?_cons_succ, List.getElem?_cons_zero]; rfl
          case q5a => exact fun _ _ _ h => h
          case y5a => (refine Or.inl ⟨rfl, ?_⟩; intro wq hq; obtain ⟨⟨a0, a1, a2, a3⟩, ⟨b0, b1, b2, b3⟩⟩ := HS.out wq hq; go_simp; try with_reducible rfl)
          simp only [Act.put, List.setIfInBounds_toArray, List.set_cons_zero, List.set_cons_succ]
          refine wpAnyH_take (i := 6) (oi := ?p6a) (v := ?v6a) ?o6a (by kernel_rfl) (by kernel_rfl) (by kernel_rfl) ?q6a ?y6a hHeld ?r6a
          case o6a => simp only [List.getElem?_toArray, List.getElem?_cons_succ, List.getElem?_cons_zero]; rfl
          case q6a => exact fun _ _ _ h => h
          case y6a => (refine Or.inl ⟨rfl, ?_⟩; intro wq hq; obtain ⟨⟨a0, a1, a2, a3⟩, ⟨b0, b1, b2, b3⟩⟩ := HS.out wq hq; go_simp; try with_reducible rfl)
          simp only [Act.put, List.setIfInBounds_toArray, List.set_cons_zero, List.set_cons_succ]
          refine wpAnyH_take (i := 7) (oi := ?p7a) (v := ?v7a) ?o7a (by kernel_rfl) (by kernel_rfl) (by kernel_rfl) ?q7a ?y7a hHeld ?r7a
          case o7a => simp only [List.getElem?_toArray, List.getElem?_cons_succ, List.getElem?_cons_zero]; rfl
          case q7a => exact fun _ _ _ h => h
          case y7a => (refine Or.inl ⟨rfl, ?_⟩; intro wq hq; obtain ⟨⟨a0, a1, a2, a3⟩, ⟨b0, b1, b2, b3⟩⟩ := HS.out wq hq; go_simp; try with_reducible rfl)
          simp only [Act.put, List.setIfInBounds_toArray, List.set_cons_zero, List.set_cons_succ]
          refine wpAnyH_take (i := 8) (oi := ?p8a) (v := ?v8a) ?o8a (by kernel_rfl) (by kernel_rfl) (by kernel_rfl) ?q8a ?y8a hHeld ?r8a
          case o8a => simp only [List.getElem?_toArray, List.getElem?_cons_succ, List.getElem?_cons_zero]; rfl
          case q8a => exact fun _ _ _ h => h
          case y8a => (refine Or.inl ⟨rfl, ?_⟩; intro wq hq; obtain ⟨⟨a0, a1, a2, a3⟩, ⟨b0, b1, b2, b3⟩⟩ := HS.out wq hq; go_simp; try with_reducible rfl)
          simp only [Act.put, List.setIfInBounds_toArray, List.set_cons_zero, List.set_cons_succ]
          refine wpAnyH_take (i := 9) (oi := ?p9a) (v := ?v9a) ?o9a (by kernel_rfl) (by kernel_rfl) (by kernel_rfl) ?q9a ?y9a hHeld ?r9a
          case o9a => simp only [List.getElem?_toArray, List.getElem?_cons_succ, List.getElem?_cons_zero]; rfl
          case q9a => exact fun _ _ _ h => h
          case y9a => (refine Or.inl ⟨rfl, ?_⟩; intro wq hq; obtain ⟨⟨a0, a1, a2, a3⟩, ⟨b0, b1, b2, b3⟩⟩ := HS.out wq hq; go_simp; try with_reducible rfl)
          simp only [Act.put, List.setIfInBounds_toArray, List.set_cons_zero, List.set_cons_succ]
          refine wpAnyH_ready (rs := [10]) (by kernel_rfl) (by simp) ?_
          refine AllReadyH.cons (o := ?p10a) ?o10a ?s10a AllReadyH.nil
          case o10a => simp only [List.getElem?_toArray, List.getElem?_cons_succ, List.getElem?_cons_zero]; rfl
          intro K hK
          go_simp
          have cc := rcmp_any x.b y.b
          rw [HR.out] at cc
          refine (cc _).mono ?_
          clear cc
          rintro e w3 ⟨rfl, hb3⟩
          have B3 : Below wr.heap.size wr w3 := hHeld.trans (hb3.mono hHeld.size)
          clear hb3
          refine hK.out _ _ B3 (fun hHeld => ?_)
          clear hK K
          refine wpAnyH_take (i := 11) (oi := ?p11a) (v := ?v11a) ?o11a (by kernel_rfl) (by kernel_rfl) (by kernel_rfl) ?q11a ?y11a hHeld ?r11a
          case o11a => simp only [List.getElem?_toArray, List.getElem?_cons_succ, List.getElem?_cons_zero]; rfl
          case q11a => exact fun _ _ _ h => h
          case y11a => (refine Or.inl ⟨rfl, ?_⟩; intro wq hq; obtain ⟨⟨a0, a1, a2, a3⟩, ⟨b0, b1, b2, b3⟩⟩ := HS.out wq hq; go_simp; try with_reducible rfl)
          simp only [Act.put, List.setIfInBounds_toArray, List.set_cons_zero, List.set_cons_succ]
          refine wpAnyH_take (i := 12) (oi := ?p12a) (v := ?v12a) ?o12a (by kernel_rfl) (by kernel_rfl) (by kernel_rfl) ?q12a ?y12a hHeld ?r12a
          case o12a => simp only [List.getElem?_toArray, List.getElem?_cons_succ, List.getElem?_cons_zero]; rfl
          case q12a => exact fun _ _ _ h => h
          case y12a => (refine Or.inl ⟨rfl, ?_⟩; intro wq hq; obtain ⟨⟨a0, a1, a2, a3⟩, ⟨b0, b1, b2, b3⟩⟩ := HS.out wq hq; go_simp; try with_reducible rfl)
          simp only [Act.put, List.setIfInBounds_toArray, List.set_cons_zero, List.set_cons_succ]
          refine wpAnyH_done (by kernel_rfl) ?_ _
          obtain ⟨hx, hy, hR, hB⟩ := HK.out _ hHeld
          obtain ⟨⟨y0, y1, y2, y3⟩, yf⟩ := row4 hB
          have f0 := yf 0
          have f1 := yf 1
          have f2 := yf 2
          have f3 := yf 3
          have HBq := Hid_of (bel_up HB.out hHeld (Nat.le_refl _))
          have HRq := Hid_of ((put4_oth (show w.heap.size ≠ w.heap.size + 1 by omega) (.int .i64 x.s) (.int .i64 x.b.i) (.int .i64 x.b.t) (.string x.v)).trans hR)
          have HBB := Hid_of (put4_row hB (.int .i64 x.s) (.int .i64 x.b.i) (.int .i64 x.b.t) (.string x.v))
          obtain ⟨x0, x1, x2, x3⟩ := hx
          clear hy hR hB yf
          go_wp2
          go_roundw
          case rel => exact ⟨k + 1, by omega, by go_num, put4_bel HBq.out (by omega) _ _ _ _, HRq.out, by rw [HE.out]; exact HBB.out⟩
          case measure => simp [intOf]; omega
        · have HE := Hid_of (HST.out.2 h0 hr)
          have dr : decide (0 < r) = false := decide_eq_false hr
          clear HST hr HW0
          go_upto_region 5 with fail
          refine wp_region_held_drew (S := fun wq => Below (wr).heap.size (wr) wq) (by kernel_rfl) (Below.drew (Below.refl _ _)) (fun hHeld => ?_)
          refine wpAnyH_take (i := 0) (oi := ?p0b) (v := ?v0b) ?o0b (by kernel_rfl) (by kernel_rfl) (by kernel_rfl) ?q0b ?y0b hHeld ?r0b
          case o0b => simp only [List.getElem?_toArray, List.getElem?_cons_zero]; rfl
          case q0b => exact fun _ _ _ h => h
          case y0b => (refine Or.inl ⟨rfl, ?_⟩; intro wq hq; obtain ⟨⟨a0, a1, a2, a3⟩, ⟨b0, b1, b2, b3⟩⟩ := HS.out wq hq; go_simp; try with_reducible rfl)
          simp only [Act.put, List.setIfInBounds_toArray, List.set_cons_zero, List.set_cons_succ]
          refine wpAnyH_take (i := 1) (oi := ?p1b) (v := ?v1b) ?o1b (by kernel_rfl) (by kernel_rfl) (by kernel_rfl) ?q1b ?y1b hHeld ?r1b
          case o1b => simp only [List.getElem?_toArray, List.getElem?_cons_succ, List.getElem?_cons_zero]; rfl
          case q1b => exact fun _ _ _ h => h
          case y1b => (refine Or.inl ⟨rfl, ?_⟩; intro wq hq; obtain ⟨⟨a0, a1, a2, a3⟩, ⟨b0, b1, b2, b3⟩⟩ := HS.out wq hq; go_simp; try with_reducible rfl)
          simp only [Act.put, List.setIfInBounds_toArray, List.set_cons_zero, List.set_cons_succ]
          refine wpAnyH_take (i := 2) (oi := ?p2b) (v := ?v2b) ?o2b (by kernel_rfl) (by kernel_rfl) (by kernel_rfl) ?q2b ?y2b hHeld ?r2b
          case o2b => simp only [List.getElem?_toArray, List.getElem?_cons_succ, List.getElem?_cons_zero]; rfl
          case q2b => exact fun _ _ _ h => h
          case y2b => (refine Or.inl ⟨rfl, ?_⟩; intro wq hq; obtain ⟨⟨a0, a1, a2, a3⟩, ⟨b0, b1, b2, b3⟩⟩ := HS.out wq hq; go_simp; try with_reducible rfl)
          simp only [Act.put, List.setIfInBounds_toArray, List.set_cons_zero, List.set_cons_succ]
          refine wpAnyH_take (i := 3) (oi := ?p3b) (v := ?v3b) ?o3b (by kernel_rfl) (by kernel_rfl) (by kernel_rfl) ?q3b ?y3b hHeld ?r3b
          case o3b => simp only [List.getElem?_toArray, List.getElem?_cons_succ, List.getElem?_cons_zero]; rfl
          case q3b => exact fun _ _ _ h => h
          case y3b => (refine Or.inl ⟨rfl, ?_⟩; intro wq hq; obtain ⟨⟨a0, a1, a2, a3⟩, ⟨b0, b1, b2, b3⟩⟩ := HS.out wq hq; go_simp; try with_reducible rfl)
          simp only [Act.put, List.setIfInBounds_toArray, List.set_cons_zero, List.set_cons_succ]
          refine wpAnyH_take (i := 4) (oi := ?p4b) (v := ?v4b) ?o4b (by kernel_rfl) (by kernel_rfl) (by kernel_rfl) ?q4b ?y4b hHeld ?r4b
          case o4b => simp only [List.getElem?_toArray, List.getElem?_cons_succ, List.getElem?_cons_zero]; rfl
          case q4b => exact fun _ _ _ h => h
          case y4b => (refine Or.inl ⟨rfl, ?_⟩; intro wq hq; obtain ⟨⟨a0, a1, a2, a3⟩, ⟨b0, b1, b2, b3⟩⟩ := HS.out wq hq; go_simp; try with_reducible rfl)
          simp only [Act.put, List.setIfInBounds_toArray, List.set_cons_zero, List.set_cons_succ]
          refine wpAnyH_take (i := 5) (oi := ?p5b) (v := ?v5b) ?o5b (by kernel_rfl) (by kernel_rfl) (by kernel_rfl) ?q5b ?y5b hHeld ?r5b
          case o5b => simp only [List.getElem?_toArray, List.getElem?_cons_succ, List.getElem?_cons_zero]; rfl
          case q5b => exact fun _ _ _ h => h
          case y5b => (refine Or.inl ⟨rfl, ?_⟩; intro wq hq; obtain ⟨⟨a0, a1, a2, a3⟩, ⟨b0, b1, b2, b3⟩⟩ := HS.out wq hq; go_simp; try with_reducible rfl)
          simp only [Act.put, List.setIfInBounds_toArray, List.set_cons_zero, List.set_cons_succ]
          refine wpAnyH_take (i := 6) (oi := ?p6b) (v := ?v6b) ?o6b (by kernel_rfl) (by kernel_rfl) (by kernel_rfl) ?q6b ?y6b hHeld ?r6b
          case o6b => simp only [List.getElem?_toArray, List.getElem?_cons_succ, List.getElem?_cons_zero]; rfl
          case q6b => exact fun _ _ _ h => h
          case y6b => (refine Or.inl ⟨rfl, ?_⟩; intro wq hq; obtain ⟨⟨a0, a1, a2, a3⟩, ⟨b0, b1, b2, b3⟩⟩ := HS.out wq hq; go_simp; try with_reducible rfl)
          simp only [Act.put, List.setIfInBounds_toArray, List.set_cons_zero, List.set_cons_succ]
          refine wpAnyH_take (i := 7) (oi := ?p7b) (v := ?v7b) ?o7b (by kernel_rfl) (by kernel_rfl) (by kernel_rfl) ?q7b ?y7b hHeld ?r7b
          case o7b => simp only [List.getElem?_toArray, List.getElem?_cons_succ, List.getElem?_cons_zero]; rfl
          case q7b => exact fun _ _ _ h => h
          case y7b => (refine Or.inl ⟨rfl, ?_⟩; intro wq hq; obtain ⟨⟨a0, a1, a2, a3⟩, ⟨b0, b1, b2, b3⟩⟩ := HS.out wq hq; go_simp; try with_reducible rfl)
          simp only [Act.put, List.setIfInBounds_toArray, List.set_cons_zero, List.set_cons_succ]
          refine wpAnyH_take (i := 8) (oi := ?p8b) (v := ?v8b) ?o8b (by kernel_rfl) (by kernel_rfl) (by kernel_rfl) ?q8b ?y8b hHeld ?r8b
          case o8b => simp only [List.getElem?_toArray, List.getElem?_cons_succ, List.getElem?_cons_zero]; rfl
          case q8b => exact fun _ _ _ h => h
          case y8b => (refine Or.inl ⟨rfl, ?_⟩; intro wq hq; obtain ⟨⟨a0, a1, a2, a3⟩, ⟨b0, b1, b2, b3⟩⟩ := HS.out wq hq; go_simp; try with_reducible rfl)
          simp only [Act.put, List.setIfInBounds_toArray, List.set_cons_zero, List.set_cons_succ]
          refine wpAnyH_take (i := 9) (oi := ?p9b) (v := ?v9b) ?o9b (by kernel_rfl) (by kernel_rfl) (by kernel_rfl) ?q9b ?y9b hHeld ?r9b
          case o9b => simp only [List.getElem?_toArray, List.getElem?_cons_succ, List.getElem?_cons_zero]; rfl
          case q9b => exact fun _ _ _ h => h
          case y9b => (refine Or.inl ⟨rfl, ?_⟩; intro wq hq; obtain ⟨⟨a0, a1, a2, a3⟩, ⟨b0, b1, b2, b3⟩⟩ := HS.out wq hq; go_simp; try with_reducible rfl)
          simp only [Act.put, List.setIfInBounds_toArray, List.set_cons_zero, List.set_cons_succ]
          refine wpAnyH_ready (rs := [10]) (by kernel_rfl) (by simp) ?_
          refine AllReadyH.cons (o := ?p10b) ?o10b ?s10b AllReadyH.nil
          case o10b => simp only [List.getElem?_toArray, List.getElem?_cons_succ, List.getElem?_cons_zero]; rfl
          intro K hK
          go_simp
          have cc := rcmp_any x.b y.b
          rw [HR.out] at cc
          refine (cc _).mono ?_
          clear cc
          rintro e w3 ⟨rfl, hb3⟩
          have B3 : Below wr.heap.size wr w3 := hHeld.trans (hb3.mono hHeld.size)
          clear hb3
          refine hK.out _ _ B3 (fun hHeld => ?_)
          clear hK K
          refine wpAnyH_take (i := 11) (oi := ?p11b) (v := ?v11b) ?o11b (by kernel_rfl) (by kernel_rfl) (by kernel_rfl) ?q11b ?y11b hHeld ?r11b
          case o11b => simp only [List.getElem?_toArray, List.getElem?_cons_succ, List.getElem?_cons_zero]; rfl
          case q11b => exact fun _ _ _ h => h
          case y11b => (refine Or.inl ⟨rfl, ?_⟩; intro wq hq; obtain ⟨⟨a0, a1, a2, a3⟩, ⟨b0, b1, b2, b3⟩⟩ := HS.out wq hq; go_simp; try with_reducible rfl)
          simp only [Act.put, List.setIfInBounds_toArray, List.set_cons_zero, List.set_cons_succ]
          refine wpAnyH_take (i := 12) (oi := ?p12b) (v := ?v12b) ?o12b (by kernel_rfl) (by kernel_rfl) (by kernel_rfl) ?q12b ?y12b hHeld ?r12b
          case o12b => simp only [List.getElem?_toArray, List.getElem?_cons_succ, List.getElem?_cons_zero]; rfl
          case q12b => exact fun _ _ _ h => h
          case y12b => (refine Or.inl ⟨rfl, ?_⟩; intro wq hq; obtain ⟨⟨a0, a1, a2, a3⟩, ⟨b0, b1, b2, b3⟩⟩ := HS.out wq hq; go_simp; try with_reducible rfl)
          simp only [Act.put, List.setIfInBounds_toArray, List.set_cons_zero, List.set_cons_succ]
          refine wpAnyH_done (by kernel_rfl) ?_ _
          obtain ⟨hx, hy, hR, hB⟩ := HK.out _ hHeld
          have HBq := Hid_of (bel_up HB.out hHeld (Nat.le_refl _))
          have HRq := Hid_of hR
          have HBB := Hid_of hB
          clear hx hy hR hB
          go_wp2
          go_roundw
          case rel => exact ⟨k + 1, by omega, by go_num, HBq.out, HRq.out, by rw [HE.out]; exact HBB.out⟩
          case measure => simp [intOf]; omega
    · obtain rfl : k = l.length := by omega
      obtain ⟨⟨x0, x1, x2, x3⟩, xf⟩ := row4 hr0
      obtain ⟨⟨y0, y1, y2, y3⟩, -⟩ := row4 hr1
      have f0 := xf 0
      have f1 := xf 1
      have f2 := xf 2
      have f3 := xf 3
      obtain ⟨y, HY⟩ : ∃ y, Hid (M.vx l l.length = y) := ⟨_, Hid_of rfl⟩
      rw [HY.out] at y0 y1 y2 y3
      obtain ⟨nz, HNZ⟩ : ∃ nz, Hid (decide (0 < l.length) = nz) := ⟨_, Hid_of rfl⟩
      have hnz : decide ((0 : Int) < (l.length : Int)) = nz := by rw [← HNZ.out]; simp
      have hnz' : decide (0 < l.length) = nz := HNZ.out
      clear hat HW0 hr0 hr1 xf
      go_wp2
      refine bodyPost_ret (v := .tuple #[.agg #[.int .i64 y.s, .int .i64 y.b.i, .int .i64 y.b.t, .string y.v], .bool nz]) ?_ rfl ⟨by rw [HY.out, HNZ.out], put4_bel HB.out (Nat.le_refl _) _ _ _ _⟩
      exact res4 f37_res _ _ w.heap.size _ _ _ _ rfl (put4_row HR0.out _ _ _ _)

end Go.Proofs.Ytpolmfgklgggcaa
