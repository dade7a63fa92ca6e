/-
  The vote of the greatest ballot, as the program finds it and as the document tells it.
-/
import Derived.Test.YtfjlanhekheecaaPF
import Derived.Test.YtfjlanhekheecaaSB
namespace Go.Proofs.Ytfjlanhekheecaa.Np
open Go.RowKit
set_option linter.unusedVariables false
open Go.Proofs.Ytfjlanhekheecaa.M (E V)

/-- Four cells of a block set. -/
def put4 (w : World) (g : Nat) (a b c d : Value) : World := (((w.setCell ⟨g, 0, none⟩ a).setCell ⟨g, 1, none⟩ b).setCell ⟨g, 2, none⟩ c).setCell ⟨g, 3, none⟩ d
theorem put4_row {w : World} {g : Nat} {t : TypeId} {v0 v1 v2 v3 : Value} (h : w.heap[g]? = some (.cells #[v0, v1, v2, v3] t (0, 0))) (a b c d : Value) : (put4 w g a b c d).heap[g]? = some (.cells #[a, b, c, d] t (0, 0)) :=
  heap_setCell_same _ g 3 _ _ _ (heap_setCell_same _ g 2 _ _ _ (heap_setCell_same _ g 1 _ _ _ (heap_setCell_same w g 0 _ _ _ h)))
theorem put4_bel {w0 w : World} {B g : Nat} (h : Below B w0 w) (hg : B ≤ g) (a b c d : Value) : Below B w0 (put4 w g a b c d) := (((h.setCell hg _).setCell hg _).setCell hg _).setCell hg _
theorem put4_oth {w : World} {g k : Nat} (h : k ≠ g) (a b c d : Value) : (put4 w g a b c d).heap[k]? = w.heap[k]? := by
  unfold put4
  rw [heap_setCell_other _ ⟨g, 3, none⟩ k _ h, heap_setCell_other _ ⟨g, 2, none⟩ k _ h, heap_setCell_other _ ⟨g, 1, none⟩ k _ h, heap_setCell_other _ ⟨g, 0, none⟩ k _ h]
theorem res4 {fn : Func} {p u : Tmp} (h : fn.results = #[.cell p 42, .tmp u]) (tmps : Array Value) (w : World) (g : Nat) (v0 v1 v2 v3 : Value) (hp : tmps.getD p undef = .pointer (some ⟨g, 0, none⟩)) (hg : w.heap[g]? = some (.cells #[v0, v1, v2, v3] 42 (0, 0))) :
    (results fn tmps).run Try.prog w = .ok (.tuple #[.agg #[v0, v1, v2, v3], tmps.getD u undef]) w := by
  have hp' : tmps[p]?.getD undef = .pointer (some ⟨g, 0, none⟩) := by simpa using hp
  rw [results_cell_tmp h]
  simp [asAddr, hp', run_loadVar_row w g 42 42 #[v0, v1, v2, v3] (0, 0) _ hg Try.underlying42 rfl Try.size42]
set_option maxRecDepth 100000 in
set_option maxHeartbeats 400000 in
theorem eq42 (s i t : Int) (v : ByteArray) (w : World) : (binOp .eql 42 (.agg #[.int .i64 s, .int .i64 i, .int .i64 t, .string v]) (.agg #[.int .i64 s, .int .i64 i, .int .i64 t, .string v])).run Try.prog w = .ok (.bool true) w := by
  have u3 := Try.underlying3
  have u9 := Try.underlying9
  have a3 := Try.isAgg3
  have a9 := Try.isAgg9
  have a28 := Try.isAgg30
  have z3 := Try.sizeOf3
  have z9 := Try.sizeOf9
  have z28 := Try.sizeOf30
  have hS : Try.prog.underlying 42 = some (.struct (Try.prog.fieldsOf 42)) := by kernel_rfl
  have hp : Try.prog.stoodInHeld 42 = false := by kernel_rfl
  have hS2 : Try.prog.underlying 30 = some (.struct (Try.prog.fieldsOf 30)) := by kernel_rfl
  have hp2 : Try.prog.stoodInHeld 30 = false := by kernel_rfl
  have h2 : (Op.equalIn 9998 30 (.agg #[.int .i64 i, .int .i64 t]) (.agg #[.int .i64 i, .int .i64 t])).run Try.prog w = .ok true w := by
    rw [show (9998 : Nat) = 9997 + 1 from rfl, run_equalIn_agg w 9997 30 _ _ hS2 hp2]
    simp only [Program.fieldsOf, Try.underlying30]
    go_simp
  clear hS2 hp2
  rw [run_eql_struct, show (10000 : Nat) = 9999 + 1 from rfl, run_equalIn_agg w 9999 42 _ _ hS hp]
  clear hS hp
  simp only [Program.fieldsOf, Try.underlying42]
  go_simp
theorem f81_res : Try.f81.results = #[.cell 2 42, .tmp 3] := rfl
set_option maxRecDepth 100000 in
set_option maxHeartbeats 1000000 in
theorem pick_any (a : Option Addr) (cap : Nat) (l : List V) (w : World) (hat : AtL vl w a l) (hl : l.length ≤ 1000000) (hv : ∀ x ∈ l, x.v.size ≤ 140737488351232) :
    Calls Try.prog 81 #[.slice a l.length cap] w fun e w' => e = .returned (.tuple #[.agg #[.int .i64 (M.vx l l.length).s, .int .i64 (M.vx l l.length).b.i, .int .i64 (M.vx l l.length).b.t, .string (M.vx l l.length).v], .bool (decide (0 < l.length))]) ∧ Below w.heap.size w w' := by
  obtain ⟨z, HZ⟩ : ∃ z, Hid (M.vx l l.length = z) := ⟨_, Hid_of rfl⟩
  rw [HZ.out]
  obtain ⟨nz, HNZ⟩ : ∃ nz, Hid (decide (0 < l.length) = nz) := ⟨_, Hid_of rfl⟩
  rw [HNZ.out]
  have hr1 := heap_alloc_last w (.cells #[.int .i64 0, .int .i64 0, .int .i64 0, .string ⟨#[]⟩] 42)
  obtain ⟨W1, HW1⟩ : ∃ W1, Hid (w.alloc (.cells #[.int .i64 0, .int .i64 0, .int .i64 0, .string ⟨#[]⟩] 42) = W1) := ⟨_, Hid_of rfl⟩
  have HB1 : Hid (Below w.heap.size w W1) := by rw [← HW1.out]; exact bel1 w _
  rw [HW1.out] at hr1
  have HR1 := Hid_of hr1
  clear hr1
  go_enter Try.func81, Try.ntmps81
  go_upto_region 1 with fail
  rw [HW1.out]
  clear HW1
  go_wp2_with fail
  refine (ballots_any a cap l W1 (hat.keep HB1.out) hl).mono ?_
  rintro e w2 ⟨a2, rfl, hat2, hb2⟩
  have hlm : (l.map V.b).length = l.length := by simp
  have hg := greatest_any a2 l.length (l.map V.b) w2 hat2 (by omega)
  rw [hlm] at hg
  have HB2 := Hid_of (bel_up HB1.out hb2 (Nat.le_refl _))
  have HR2 := Hid_of (bel_row HR1.out hb2)
  clear hb2 hlm hat2 HB1 HR1
  go_wp2_with fail
  refine hg.mono ?_
  clear hg
  rintro e w3 ⟨rfl, hb3⟩
  have HB3 := Hid_of (bel_up HB2.out hb3 (Nat.le_refl _))
  have hr3 := bel_row HR2.out hb3
  have HR3 := Hid_of hr3
  obtain ⟨⟨x0, x1, x2, x3⟩, xf⟩ := row4 hr3
  have f0 := xf 0
  have f1 := xf 1
  have f2 := xf 2
  have f3 := xf 3
  have hat3 := hat.keep HB3.out
  clear xf hr3 hat HB2 HR2 hb3
  rcases Nat.eq_zero_or_pos l.length with h0 | h0
  · have e1 : M.bi (l.map V.b) l.length = -1 := by rw [h0]; rfl
    obtain rfl : z = ⟨0, ⟨0, 0⟩, ⟨#[]⟩⟩ := by rw [← HZ.out, h0]; rfl
    obtain rfl : nz = false := by rw [← HNZ.out, h0]; rfl
    rw [e1]
    clear e1 hat3 h0 HZ HNZ hv
    go_wp2
    refine bodyPost_ret (v := .tuple #[.agg #[.int .i64 0, .int .i64 0, .int .i64 0, .string ⟨#[]⟩], .bool false]) ?_ rfl ⟨rfl, put4_bel HB3.out (Nat.le_refl _) _ _ _ _⟩
    exact res4 f81_res _ _ w.heap.size _ _ _ _ rfl (put4_row HR3.out _ _ _ _)
  · have hp := M.bst_lt (l.map V.b) l.length h0
    have e1 := M.bi_pos (l.map V.b) h0
    have e2 := M.vx_pos l h0 (Nat.le_refl _)
    rw [HZ.out] at e2
    obtain rfl : nz = true := by rw [← HNZ.out]; exact decide_eq_true h0
    rw [e1]
    obtain ⟨b, off, rfl, c0, c1, c2, c3⟩ := hat3.getV (M.bst (l.map V.b) l.length) hp
    rw [← e2] at c0 c1 c2 c3
    have hzv : z.v.size ≤ 140737488351232 := hv z (by rw [e2]; exact List.getElem_mem _)
    clear e1 e2 hat3 h0 HZ HNZ hv
    generalize M.bst (l.map V.b) l.length = p at *
    have hpi : (p : Int) < (l.length : Int) := by omega
    have hp0 : decide ((p : Int) < 0) = false := decide_eq_false (by omega)
    have hr4 := heap_alloc_last w3 (.cells #[.int .i64 z.s, .int .i64 z.b.i, .int .i64 z.b.t, .string z.v] 42)
    obtain ⟨W4, HW4⟩ : ∃ W4, Hid (w3.alloc (.cells #[.int .i64 z.s, .int .i64 z.b.i, .int .i64 z.b.t, .string z.v] 42) = W4) := ⟨_, Hid_of rfl⟩
    have HB4 : Hid (Below w3.heap.size w3 W4) := by rw [← HW4.out]; exact bel1 w3 _
    rw [HW4.out] at hr4
    have HR4 := Hid_of hr4
    obtain ⟨⟨y0, y1, y2, y3⟩, -⟩ := row4 hr4
    clear hr4
    go_upto_region 5 with fail
    rw [HW4.out]
    clear HW4 c0 c1 c2 c3 x0 x1 x2 x3 f0 f1 f2 f3
    go_wp2_with fail
    refine (sclone_any z.v W4 hzv).mono ?_
    rintro e w5 ⟨rfl, hb5⟩
    have hq5 := bel_row HR4.out hb5
    have hR5 := bel_row (bel_row HR3.out HB4.out) hb5
    have HB5 := Hid_of (bel_up (bel_up HB3.out HB4.out (Nat.le_refl _)) hb5 (Nat.le_refl _))
    have hne : w3.heap.size ≠ w.heap.size := by
      have := (Array.getElem?_eq_some_iff.1 HR3.out).1
      omega
    obtain ⟨⟨d0, d1, d2, d3⟩, df⟩ := row4 hq5
    have g3 := df 3
    have hq6 : (w5.setCell ⟨w3.heap.size, 3, none⟩ (.string z.v)).heap[w3.heap.size]? = some (.cells #[.int .i64 z.s, .int .i64 z.b.i, .int .i64 z.b.t, .string z.v] 42 (0, 0)) := heap_setCell_same w5 _ 3 _ _ _ hq5
    have hR6 : (w5.setCell ⟨w3.heap.size, 3, none⟩ (.string z.v)).heap[w.heap.size]? = some (.cells #[.int .i64 0, .int .i64 0, .int .i64 0, .string ⟨#[]⟩] 42 (0, 0)) := (heap_setCell_other w5 ⟨w3.heap.size, 3, none⟩ _ _ (Ne.symm hne)).trans hR5
    have HB6 : Hid (Below w.heap.size w (w5.setCell ⟨w3.heap.size, 3, none⟩ (.string z.v))) := Hid_of (HB5.out.setCell (HB3.out.size) _)
    obtain ⟨W6, HW6⟩ : ∃ W6, Hid (w5.setCell ⟨w3.heap.size, 3, none⟩ (.string z.v) = W6) := ⟨_, Hid_of rfl⟩
    rw [HW6.out] at hq6 hR6 HB6
    have HR6 := Hid_of hR6
    obtain ⟨⟨k0, k1, k2, k3⟩, -⟩ := row4 hq6
    obtain ⟨⟨x0, x1, x2, x3⟩, xf⟩ := row4 hR6
    have f0 := xf 0
    have f1 := xf 1
    have f2 := xf 2
    have f3 := xf 3
    clear xf df hq5 hR5 hq6 hR6 hb5 hne y0 y1 y2 y3 HB5 HR4 HR3 HB4
    go_upto_region 6 with fail
    rw [HW6.out]
    clear HW6 d0 d1 d2 d3 g3
    go_wp2
    refine bodyPost_ret (v := .tuple #[.agg #[.int .i64 z.s, .int .i64 z.b.i, .int .i64 z.b.t, .string z.v], .bool true]) ?_ rfl ⟨rfl, put4_bel HB6.out (Nat.le_refl _) _ _ _ _⟩
    exact res4 f81_res _ _ w.heap.size _ _ _ _ rfl (put4_row HR6.out _ _ _ _)

end Go.Proofs.Ytfjlanhekheecaa.Np
