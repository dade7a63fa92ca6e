/-
  An acceptor in memory; its small methods.
-/
import Derived.Test.YtfjlanhekheecaaC
import Derived.Test.YtfjlanhekheecaaSB
import Derived.Test.YtfjlanhekheecaaASI
import Derived.Test.YtfjlanhekheecaaABS
namespace Go.Proofs.Ytfjlanhekheecaa.Na
open Go.RowKit
set_option linter.unusedVariables false
open Go.Proofs.Ytfjlanhekheecaa.M (E V)

/-- Four cells of a block set. -/
def put4 (w : World) (g : Nat) (a b c d : Value) : World := (((w.setCell ⟨g, 0, none⟩ a).setCell ⟨g, 1, none⟩ b).setCell ⟨g, 2, none⟩ c).setCell ⟨g, 3, none⟩ d
theorem put4_row {w : World} {g : Nat} {t : TypeId} {v0 v1 v2 v3 : Value} (h : w.heap[g]? = some (.cells #[v0, v1, v2, v3] t (0, 0))) (a b c d : Value) : (put4 w g a b c d).heap[g]? = some (.cells #[a, b, c, d] t (0, 0)) :=
  heap_setCell_same _ g 3 _ _ _ (heap_setCell_same _ g 2 _ _ _ (heap_setCell_same _ g 1 _ _ _ (heap_setCell_same w g 0 _ _ _ h)))
theorem put4_bel {w0 w : World} {B g : Nat} (h : Below B w0 w) (hg : B ≤ g) (a b c d : Value) : Below B w0 (put4 w g a b c d) := (((h.setCell hg _).setCell hg _).setCell hg _).setCell hg _
theorem put4_oth {w : World} {g k : Nat} (h : k ≠ g) (a b c d : Value) : (put4 w g a b c d).heap[k]? = w.heap[k]? := by
  unfold put4
  rw [heap_setCell_other _ ⟨g, 3, none⟩ k _ h, heap_setCell_other _ ⟨g, 2, none⟩ k _ h, heap_setCell_other _ ⟨g, 1, none⟩ k _ h, heap_setCell_other _ ⟨g, 0, none⟩ k _ h]
/-- A vote, and a ballot, as values. -/
abbrev bV (x : E) : Value := .agg #[.int .i64 x.i, .int .i64 x.t]
abbrev vV (x : V) : Value := .agg #[.int .i64 x.s, .int .i64 x.b.i, .int .i64 x.b.t, .string x.v]
theorem alloc4 (w : World) (v0 v1 v2 v3 : Value) (t : TypeId) : (w.alloc (.cells #[v0, v1, v2, v3] t)).heap[w.heap.size]? = some (.cells #[v0, v1, v2, v3] t (0, 0)) := heap_alloc_last w _
theorem bel2 (w : World) (o o' : Obj) : Below w.heap.size w ((w.alloc o).alloc o') := bel_up (bel1 w o) (bel1 _ o') (Nat.le_refl _)
/-- What is an acceptor's own: its block, and its row's. -/
def fpa (b : Nat) (v : Value) (k : Nat) : Prop := k = b ∨ v.ownBlock = some k
/-- An acceptor at block b. -/
structure AI (w : World) (base b : Nat) (v : Value) (a : M.S) : Prop where
  row : w.heap[b]? = some (.cells #[.int .i64 a.p.i, .int .i64 a.p.t, .int .i64 a.base, v] 77 (0, 0))
  own : OwnL vl 42 w base v a.l
  ap : v.ownBlock ≠ some b
  lo : base ≤ b
section
variable {w w' : World} {base b : Nat} {v : Value} {a : M.S}
theorem AI.keepBut (h : AI w base b v a) (hb : ∀ k, k < w.heap.size → fpa b v k → w'.heap[k]? = w.heap[k]?) : AI w' base b v a :=
  ⟨(hb b (Array.getElem?_eq_some_iff.1 h.row).1 (.inl rfl)).trans h.row, h.own.keepBut (fun k hk e => hb k hk (.inr e)), h.ap, h.lo⟩
theorem AI.keep (h : AI w base b v a) (hb : Below w.heap.size w w') : AI w' base b v a := h.keepBut fun k hk _ => hb.block k hk
theorem AI.lt (h : AI w base b v a) : b < w.heap.size := (Array.getElem?_eq_some_iff.1 h.row).1
theorem AI.mine (h : AI w base b v a) : ∀ k, fpa b v k → base ≤ k ∧ k < w.heap.size := by
  rintro k (rfl | hk)
  · exact ⟨h.lo, h.lt⟩
  · exact h.own.lt hk
end
theorem new_any (w : World) : Calls Try.prog 24 #[] w fun e w' => ∃ b, e = .returned (.pointer (some ⟨b, 0, none⟩)) ∧ AI w' w.heap.size b (.slice none 0 0) M.S0 ∧ Below w.heap.size w w' ∧ w.heap.size ≤ b := by
  have HB := Hid_of (fun o => bel1 w o)
  have HR := Hid_of (fun v0 v1 v2 v3 => alloc4 w v0 v1 v2 v3 77)
  go_enter Try.func24, Try.ntmps24
  go_wp2
  go_ret
  exact ⟨w.heap.size, rfl, ⟨HR.out _ _ _ _, OwnL.nil _ _ _, by simp [Value.ownBlock], Nat.le_refl _⟩, HB.out _, Nat.le_refl _⟩
theorem f29_res : Try.f29.results = #[.cell 2 30] := rfl
theorem promised_any {w : World} {base b : Nat} {v : Value} {a : M.S} (h : AI w base b v a) : Calls Try.prog 29 #[.pointer (some ⟨b, 0, none⟩)] w fun e w' => e = .returned (bV a.p) ∧ Below w.heap.size w w' := by
  obtain ⟨⟨c0, c1, c2, c3⟩, _⟩ := row4 h.row
  have HB := Hid_of (bel1 w (.cells #[.int .i64 0, .int .i64 0] 30))
  obtain ⟨W1, HW1⟩ : ∃ W1, Hid (w.alloc (.cells #[.int .i64 0, .int .i64 0] 30) = W1) := ⟨_, Hid_of rfl⟩
  have hr := heap_alloc_last w (.cells #[.int .i64 0, .int .i64 0] 30)
  have hc := row4 (bel_row h.row HB.out)
  rw [HW1.out] at HB hr hc
  obtain ⟨⟨d0, d1, d2, d3⟩, _⟩ := hc
  obtain ⟨⟨x0, x1⟩, xf⟩ := row2 hr
  have f0 := xf 0
  have f1 := xf 1
  have HR := Hid_of hr
  clear h hr xf c0 c1 c2 c3
  go_enter Try.func29, Try.ntmps29
  go_upto_region 1 with fail
  rw [HW1.out]
  clear HW1
  go_wp2
  refine bodyPost_ret (v := bV a.p) ?_ rfl ⟨rfl, (HB.out.setCell (Nat.le_refl _) _).setCell (Nat.le_refl _) _⟩
  exact results_cell_row f29_res _ _ w.heap.size 30 _ (0, 0) _ rfl (heap_setCell_same _ w.heap.size 1 _ _ _ (heap_setCell_same W1 w.heap.size 0 _ _ _ HR.out)) Try.underlying30 rfl Try.size30
theorem base_any {w : World} {base b : Nat} {v : Value} {a : M.S} (h : AI w base b v a) : Calls Try.prog 37 #[.pointer (some ⟨b, 0, none⟩)] w fun e w' => e = .returned (.int .i64 a.base) ∧ w' = w := by
  obtain ⟨⟨c0, c1, c2, c3⟩, _⟩ := row4 h.row
  clear h
  go_enter Try.func37, Try.ntmps37
  go_wp2
  go_ret
  exact ⟨rfl, rfl⟩
theorem hasSlot_any {w : World} {base b : Nat} {v : Value} {a : M.S} (h : AI w base b v a) (s : Int) : Calls Try.prog 78 #[.pointer (some ⟨b, 0, none⟩), .int .i64 s] w fun e w' => e = .returned (.bool (decide (a.base ≤ s) && decide (s < 1024))) ∧ w' = w := by
  obtain ⟨⟨c0, c1, c2, c3⟩, _⟩ := row4 h.row
  clear h
  by_cases h0 : a.base ≤ s
  · have d0 : decide (a.base ≤ s) = true := decide_eq_true h0
    rw [d0]
    go_enter Try.func78, Try.ntmps78
    go_wp2
    go_ret
    exact ⟨rfl, rfl⟩
  · have d0 : decide (a.base ≤ s) = false := decide_eq_false h0
    rw [d0]
    go_enter Try.func78, Try.ntmps78
    go_wp2
    go_ret
    exact ⟨rfl, rfl⟩
theorem f62_res : Try.f62.results = #[.cell 2 42] := rfl
set_option maxRecDepth 100000 in
set_option maxHeartbeats 1000000 in
theorem own_any (x : V) (w : World) (hx : x.v.size ≤ 140737488351232) : Calls Try.prog 62 #[vV x] w fun e w' => e = .returned (vV x) ∧ Below w.heap.size w w' := by
  obtain ⟨s, ⟨i, t⟩, v⟩ := x
  simp only [vV] at hx ⊢
  obtain ⟨W1, HW1⟩ : ∃ W1, Hid ((w.alloc (.cells #[.int .i64 s, .int .i64 i, .int .i64 t, .string v] 42)).alloc (.cells #[.int .i64 0, .int .i64 0, .int .i64 0, .string ⟨#[]⟩] 42) = W1) := ⟨_, rfl⟩
  have HB1 : Hid (Below w.heap.size w W1) := by rw [← HW1.out]; exact bel2 w _ _
  have hs1 : W1.heap.size = w.heap.size + 2 := by rw [← HW1.out]; simp
  have hr1 : W1.heap[w.heap.size]? = some (.cells #[.int .i64 s, .int .i64 i, .int .i64 t, .string v] 42 (0, 0)) := by rw [← HW1.out]; exact heap_alloc2_old w _ _
  have hr2 : W1.heap[w.heap.size + 1]? = some (.cells #[.int .i64 0, .int .i64 0, .int .i64 0, .string ⟨#[]⟩] 42 (0, 0)) := by rw [← HW1.out]; exact heap_alloc2_new w _ _
  have HR1 := Hid_of hr1
  have HR2 := Hid_of hr2
  obtain ⟨⟨c0, c1, c2, c3⟩, _⟩ := row4 hr1
  clear hr1 hr2
  go_enter Try.func62, Try.ntmps62
  go_upto_region 1 with fail
  rw [HW1.out]
  clear HW1
  go_wp2_with fail
  refine (sclone_any v W1 hx).mono ?_
  rintro e w2 ⟨rfl, hb2⟩
  have HB2 := Hid_of (bel_up HB1.out hb2 (Nat.le_refl _))
  have hr1 := bel_row HR1.out hb2
  have hr2 := bel_row HR2.out hb2
  obtain ⟨⟨x0, x1, x2, x3⟩, xf⟩ := row4 hr1
  obtain ⟨⟨y0, y1, y2, y3⟩, yf⟩ := row4 hr2
  have f3 := xf 3
  have g0 := yf 0
  have g1 := yf 1
  have g2 := yf 2
  have g3 := yf 3
  have HY := Hid_of hr2
  clear xf yf HR1 HR2 HB1 hr1 hr2 hb2 c0 c1 c2 c3
  go_wp2
  refine bodyPost_ret (v := .agg #[.int .i64 s, .int .i64 i, .int .i64 t, .string v]) ?_ rfl ⟨rfl, put4_bel (HB2.out.setCell (Nat.le_refl _) _) (Nat.le_succ _) _ _ _ _⟩
  exact results_cell_row f62_res _ _ (w.heap.size + 1) 42 _ (0, 0) _ rfl (put4_row (w := w2.setCell ⟨w.heap.size, 3, none⟩ (.string v)) ((heap_setCell_other w2 ⟨w.heap.size, 3, none⟩ _ _ (by simp)).trans HY.out) _ _ _ _) Try.underlying42 rfl Try.size42
theorem res4 {fn : Func} {p u : Tmp} (h : fn.results = #[.cell p 42, .tmp u]) (tmps : Array Value) (w : World) (g : Nat) (v0 v1 v2 v3 : Value) (hp : tmps.getD p undef = .pointer (some ⟨g, 0, none⟩)) (hg : w.heap[g]? = some (.cells #[v0, v1, v2, v3] 42 (0, 0))) :
    (results fn tmps).run Try.prog w = .ok (.tuple #[.agg #[v0, v1, v2, v3], tmps.getD u undef]) w := by
  have hp' : tmps[p]?.getD undef = .pointer (some ⟨g, 0, none⟩) := by simpa using hp
  rw [results_cell_tmp h]
  simp [asAddr, hp', run_loadVar_row w g 42 42 #[v0, v1, v2, v3] (0, 0) _ hg Try.underlying42 rfl Try.size42]
end Go.Proofs.Ytfjlanhekheecaa.Na
