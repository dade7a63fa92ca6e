import Derived.Test.YtlnedgjikkhplaaGreatGP04
set_option maxRecDepth 100000
set_option maxHeartbeats 8000000
set_option linter.unusedVariables false
set_option linter.unusedSimpArgs false
namespace Go.Proofs.YtlnedgjikkhplaaGreat.Na
open Go.RowKit
open M (E V)
def put4 (w : World) (g : Nat) (a b c d : Value) : World := (((w.setCell ⟨g, 0, none⟩ a).setCell ⟨g, 1, none⟩ b).setCell ⟨g, 2, none⟩ c).setCell ⟨g, 3, none⟩ d
theorem put4_row {w : World} {g : Nat} {t : TypeId} {v0 v1 v2 v3 : Value} (h : w.heap[g]? = some (.cells #[v0, v1, v2, v3] t (0, 0))) (a b c d : Value) : (put4 w g a b c d).heap[g]? = some (.cells #[a, b, c, d] t (0, 0)) :=
 heap_setCell_same _ g 3 _ _ _ (heap_setCell_same _ g 2 _ _ _ (heap_setCell_same _ g 1 _ _ _ (heap_setCell_same w g 0 _ _ _ h)))
theorem put4_bel {w0 w : World} {B g : Nat} (h : Below B w0 w) (hg : B ≤ g) (a b c d : Value) : Below B w0 (put4 w g a b c d) := (((h.setCell hg _).setCell hg _).setCell hg _).setCell hg _
theorem put4_oth {w : World} {g k : Nat} (h : k ≠ g) (a b c d : Value) : (put4 w g a b c d).heap[k]? = w.heap[k]? := by
 unfold put4; rw [heap_setCell_other _ ⟨g, 3, none⟩ k _ h, heap_setCell_other _ ⟨g, 2, none⟩ k _ h, heap_setCell_other _ ⟨g, 1, none⟩ k _ h, heap_setCell_other _ ⟨g, 0, none⟩ k _ h]
abbrev bV (x : E) : Value := .agg #[.int .i64 x.i, .int .i64 x.t]
abbrev vV (x : V) : Value := .agg #[.int .i64 x.s, .int .i64 x.b.i, .int .i64 x.b.t, .string x.v]
theorem alloc4 (w : World) (v0 v1 v2 v3 : Value) (t : TypeId) : (w.alloc (.cells #[v0, v1, v2, v3] t)).heap[w.heap.size]? = some (.cells #[v0, v1, v2, v3] t (0, 0)) := heap_alloc_last w _
theorem bel2 (w : World) (o o' : Obj) : Below w.heap.size w ((w.alloc o).alloc o') := Bu (bel1 w o) (bel1 _ o') Lr
def fpa (b : Nat) (v : Value) (k : Nat) : Prop := k = b ∨ v.ownBlock = some k
structure AI (w : World) (base b : Nat) (v : Value) (a : M.S) : Prop where
 row : w.heap[b]? = some (.cells #[.int .i64 a.p.i, .int .i64 a.p.t, .int .i64 a.base, v] 144 (0, 0))
 own : OwnL vl 48 w base v a.l
 ap : v.ownBlock ≠ some b
 lo : base ≤ b
section
variable {w w' : World} {base b : Nat} {v : Value} {a : M.S}
theorem AI.keepBut (h : AI w base b v a) (hb : ∀ k, k < w.heap.size → fpa b v k → w'.heap[k]? = w.heap[k]?) : AI w' base b v a :=
 ⟨(hb b (Array.getElem?_eq_some_iff.1 h.row).1 (.inl rfl)).trans h.row, h.own.keepBut (fun k hk e => hb k hk (.inr e)), h.ap, h.lo⟩
theorem AI.keep (h : AI w base b v a) (hb : Below w.heap.size w w') : AI w' base b v a := h.keepBut fun k hk _ => hb.block k hk
theorem AI.lt (h : AI w base b v a) : b < w.heap.size := (Array.getElem?_eq_some_iff.1 h.row).1
theorem AI.mine (h : AI w base b v a) : ∀ k, fpa b v k → base ≤ k ∧ k < w.heap.size := by
 rintro k (rfl | hk)
 ·exact ⟨h.lo, h.lt⟩
 ·exact h.own.lt hk
end
theorem new_any (w : World) : Calls Tryz.prog 34 #[] w fun e w' => ∃ b, e = .returned (.pointer (some ⟨b, 0, none⟩)) ∧ AI w' w.heap.size b (.slice none 0 0) M.S0 ∧ Below w.heap.size w w' ∧ w.heap.size ≤ b := by
 have HB := Hf (fun o => bel1 w o)
 have HR := Hf (fun v0 v1 v2 v3 => alloc4 w v0 v1 v2 v3 144)
 go_enter Tryz.func34, Tryz.ntmps34
 go_wp2
 go_ret
 exact ⟨w.heap.size, rfl, ⟨HR.out _ _ _ _, OwnL.nil _ _ _, by simp [Value.ownBlock], Nat.le_refl _⟩, HB.out _, Nat.le_refl _⟩
theorem f52_res : Tryz.f52.results = #[.cell 2 36] := rfl
theorem promised_any {w : World} {base b : Nat} {v : Value} {a : M.S} (h : AI w base b v a) : Calls Tryz.prog 52 #[.pointer (some ⟨b, 0, none⟩)] w fun e w' => e = .returned (bV a.p) ∧ Below w.heap.size w w' := by
 obtain ⟨⟨c0, c1, c2, c3⟩, _⟩ := row4 h.row
 have HB := Hf (bel1 w (.cells #[.int .i64 0, .int .i64 0] 36))
 obtain ⟨W1, HW1⟩ := Nh (w.alloc (.cells #[.int .i64 0, .int .i64 0] 36))
 have hr := heap_alloc_last w (.cells #[.int .i64 0, .int .i64 0] 36)
 have hc := row4 (Br h.row HB.out)
 rw [HW1.out] at HB hr hc
 obtain ⟨⟨d0, d1, d2, d3⟩, _⟩ := hc
 obtain ⟨⟨x0, x1⟩, xf⟩ := row2 hr
 have f0 := xf 0
 have f1 := xf 1
 have HR := Hf hr
 clear h hr xf c0 c1 c2 c3
 go_enter Tryz.func52, Tryz.ntmps52
 go_upto_region 1 with fail
 rw [HW1.out]; clear HW1; go_wp2
 refine bodyPost_ret (v := bV a.p) ?_ rfl ⟨rfl, (HB.out.setCell Lr _).setCell Lr _⟩
 exact results_cell_row f52_res _ _ w.heap.size 36 _ (0, 0) _ rfl (heap_setCell_same _ w.heap.size 1 _ _ _ (heap_setCell_same W1 w.heap.size 0 _ _ _ HR.out)) Tryz.underlying36 rfl Tryz.size36
theorem base_any {w : World} {base b : Nat} {v : Value} {a : M.S} (h : AI w base b v a) : Calls Tryz.prog 53 #[.pointer (some ⟨b, 0, none⟩)] w fun e w' => e = .returned (.int .i64 a.base) ∧ w' = w := by
 obtain ⟨⟨c0, c1, c2, c3⟩, _⟩ := row4 h.row
 clear h
 go_enter Tryz.func53, Tryz.ntmps53
 go_wp2
 go_ret
 exact ⟨rfl, rfl⟩
theorem hasSlot_any {w : World} {base b : Nat} {v : Value} {a : M.S} (h : AI w base b v a) (s : Int) : Calls Tryz.prog 112 #[.pointer (some ⟨b, 0, none⟩), .int .i64 s] w fun e w' => e = .returned (.bool (decide (a.base ≤ s) && decide (s < 1024))) ∧ w' = w := by
 obtain ⟨⟨c0, c1, c2, c3⟩, _⟩ := row4 h.row
 clear h
 by_cases h0 : a.base ≤ s
 ·have d0 : decide (a.base ≤ s) = true := decide_eq_true h0
  rw [d0]
  go_enter Tryz.func112, Tryz.ntmps112
  go_wp2
  go_ret
  exact ⟨rfl, rfl⟩
 ·have d0 : decide (a.base ≤ s) = false := decide_eq_false h0
  rw [d0]
  go_enter Tryz.func112, Tryz.ntmps112
  go_wp2
  go_ret
  exact ⟨rfl, rfl⟩
theorem f106_res : Tryz.f106.results = #[.cell 2 48] := rfl
theorem own_any (x : V) (w : World) (hx : x.v.size ≤ 140737488351232) : Calls Tryz.prog 106 #[vV x] w fun e w' => e = .returned (vV x) ∧ Below w.heap.size w w' := by
 obtain ⟨s, ⟨i, t⟩, v⟩ := x
 simp only [vV] at hx ⊢
 obtain ⟨W1, HW1⟩ := Nh ((w.alloc (.cells #[.int .i64 s, .int .i64 i, .int .i64 t, .string v] 48)).alloc (.cells #[.int .i64 0, .int .i64 0, .int .i64 0, .string ⟨#[]⟩] 48))
 have HB1 : Hid (Below w.heap.size w W1) := by rw [← HW1.out]; exact bel2 w _ _
 have hs1 : W1.heap.size = w.heap.size + 2 := by rw [← HW1.out]; simp
 have hr1 : W1.heap[w.heap.size]? = some (.cells #[.int .i64 s, .int .i64 i, .int .i64 t, .string v] 48 (0, 0)) := by rw [← HW1.out]; exact heap_alloc2_old w _ _
 have hr2 : W1.heap[w.heap.size + 1]? = some (.cells #[.int .i64 0, .int .i64 0, .int .i64 0, .string ⟨#[]⟩] 48 (0, 0)) := by rw [← HW1.out]; exact heap_alloc2_new w _ _
 have HR1 := Hf hr1
 have HR2 := Hf hr2
 obtain ⟨⟨c0, c1, c2, c3⟩, _⟩ := row4 hr1
 clear hr1 hr2
 go_enter Tryz.func106, Tryz.ntmps106
 go_upto_region 1 with fail
 rw [HW1.out]; clear HW1
 go_wp2_with fail
 refine (sclone_any v W1 hx).mono ?_; rintro e w2 ⟨rfl, hb2⟩
 have HB2 := Hf (Bu HB1.out hb2 Lr)
 have hr1 := Br HR1.out hb2
 have hr2 := Br HR2.out hb2
 obtain ⟨⟨x0, x1, x2, x3⟩, xf⟩ := row4 hr1
 obtain ⟨⟨y0, y1, y2, y3⟩, yf⟩ := row4 hr2
 have f3 := xf 3
 have g0 := yf 0
 have g1 := yf 1
 have g2 := yf 2
 have g3 := yf 3
 have HY := Hf hr2
 clear xf yf HR1 HR2 HB1 hr1 hr2 hb2 c0 c1 c2 c3; go_wp2
 refine bodyPost_ret (v := .agg #[.int .i64 s, .int .i64 i, .int .i64 t, .string v]) ?_ rfl ⟨rfl, put4_bel (HB2.out.setCell Lr _) (Nat.le_succ _) _ _ _ _⟩
 exact results_cell_row f106_res _ _ (w.heap.size + 1) 48 _ (0, 0) _ rfl (put4_row (w := w2.setCell ⟨w.heap.size, 3, none⟩ (.string v)) ((heap_setCell_other w2 ⟨w.heap.size, 3, none⟩ _ _ (by simp)).trans HY.out) _ _ _ _) Tryz.underlying48 rfl Tryz.size48
theorem may_any {w : World} {base b : Nat} {v : Value} {a : M.S} (h : AI w base b v a) (x : E) : Calls Tryz.prog 107 #[.pointer (some ⟨b, 0, none⟩), bV x] w fun e w' => e = .returned (.bool (M.may a x)) ∧ Below w.heap.size w w' := by
 have HM : Hid (M.may a x = (M.vld x && decide (0 ≤ M.cmpE x a.p))) := rfl
 rw [HM.out]; clear HM
 obtain ⟨W1, HW1⟩ := Nh (w.alloc (.cells #[.int .i64 x.i, .int .i64 x.t] 36))
 have HB1 : Hid (Below w.heap.size w W1) := by rw [← HW1.out]; exact bel1 w _
 have HS : Hid (∀ w', Below W1.heap.size W1 w' → (w'.cell? ⟨w.heap.size, 0, none⟩ = some (.int .i64 x.i) ∧ w'.cell? ⟨w.heap.size, 1, none⟩ = some (.int .i64 x.t)) ∧ (w'.cell? ⟨b, 0, none⟩ = some (.int .i64 a.p.i) ∧ w'.cell? ⟨b, 1, none⟩ = some (.int .i64 a.p.t) ∧ w'.cell? ⟨b, 2, none⟩ = some (.int .i64 a.base) ∧ w'.cell? ⟨b, 3, none⟩ = some v)) := by
  intro w' hb
  have h1 : W1.heap[w.heap.size]? = some (.cells #[.int .i64 x.i, .int .i64 x.t] 36 (0, 0)) := by rw [← HW1.out]; exact heap_alloc_last w _
  exact ⟨(row2 (Br h1 hb)).1, (row4 (Br (Br h.row HB1.out) hb)).1⟩
 have hv := fun W => valid_any x W
 clear h
 cases hx : M.vld x with
 | true =>
  rw [hx] at hv; clear hx; rw [Bool.true_and]
  go_enter Tryz.func107, Tryz.ntmps107
  go_wp2_with fail
  rw [HW1.out]; clear HW1
  refine wp_region_held_drew (S := fun wq => Below (W1).heap.size (W1) wq) (by kernel_rfl) (Below.drew (Below.refl _ _)) fun Hl => ?_
  refine Tk 0 ?pA ?vA ?yA Hl ?rA
  case yA => intro q h; obtain ⟨⟨z0, z1⟩, ⟨y0, y1, y2, y3⟩⟩ := HS.out q h; go_simp; try with_reducible rfl
  simp only [Act.put, Pa, Pb, Pc]
  refine Rd 1 ?pB ?sB
  intro K hK; go_simp
  refine (hv _).mono ?_; rintro e v1 ⟨rfl, hb⟩
  have B1 : Below W1.heap.size W1 v1 := Hl.trans (hb.mono Hl.size)
  clear hb
  refine hK.out _ _ B1 fun Hl => ?_; clear hK K
  refine Tm 2 ?pC ?vC Hl ?rC
  simp only [Act.put, Pa, Pb, Pc]
  refine Tk 3 ?pD ?vD ?yD Hl ?rD
  case yD => intro q h; obtain ⟨⟨z0, z1⟩, ⟨y0, y1, y2, y3⟩⟩ := HS.out q h; go_simp; try with_reducible rfl
  simp only [Act.put, Pa, Pb, Pc]
  refine Tm 4 ?pE ?vE Hl ?rE
  simp only [Act.put, Pa, Pb, Pc]
  refine Tm 5 ?pF ?vF Hl ?rF
  simp only [Act.put, Pa, Pb, Pc]
  refine Tm 6 ?pG ?vG Hl ?rG
  simp only [Act.put, Pa, Pb, Pc]
  refine Tk 7 ?pH ?vH ?yH Hl ?rH
  case yH => intro q h; obtain ⟨⟨z0, z1⟩, ⟨y0, y1, y2, y3⟩⟩ := HS.out q h; go_simp; try with_reducible rfl
  simp only [Act.put, Pa, Pb, Pc]
  refine Rd 8 ?pI ?sI
  intro K hK; go_simp
  refine (cmp_any x a.p _).mono ?_; rintro e v8 ⟨rfl, hb⟩
  have B8 : Below W1.heap.size W1 v8 := Hl.trans (hb.mono Hl.size)
  clear hb
  refine hK.out _ _ B8 fun Hl => ?_; clear hK K
  refine Tm 9 ?pJ ?vJ Hl ?rJ
  simp only [Act.put, Pa, Pb, Pc]
  refine Tm 10 ?pK ?vK Hl ?rK
  simp only [Act.put, Pa, Pb, Pc]
  refine Tm 11 ?pL ?vL Hl ?rL
  simp only [Act.put, Pa, Pb, Pc]
  refine wpAnyH_done (by kernel_rfl) ?_ _
  go_wp2
  go_ret
  exact ⟨rfl, Bu HB1.out Hl Lr⟩
 | false =>
  rw [hx] at hv; clear hx; rw [Bool.false_and]
  go_enter Tryz.func107, Tryz.ntmps107
  go_wp2_with fail
  rw [HW1.out]; clear HW1
  refine wp_region_held_drew (S := fun wq => Below (W1).heap.size (W1) wq) (by kernel_rfl) (Below.drew (Below.refl _ _)) fun Hl => ?_
  refine Tk 0 ?pM ?vM ?yM Hl ?rM
  case yM => intro q h; obtain ⟨⟨z0, z1⟩, ⟨y0, y1, y2, y3⟩⟩ := HS.out q h; go_simp; try with_reducible rfl
  simp only [Act.put, Pa, Pb, Pc]
  refine Rd 1 ?pN ?sN
  intro K hK; go_simp
  refine (hv _).mono ?_; rintro e v1 ⟨rfl, hb⟩
  have B1 : Below W1.heap.size W1 v1 := Hl.trans (hb.mono Hl.size)
  clear hb
  refine hK.out _ _ B1 fun Hl => ?_; clear hK K
  refine Tm 2 ?pO ?vO Hl ?rO
  simp only [Act.put, Pa, Pb, Pc]
  refine Ts 3 ?pP Hl ?rP
  simp only [Act.put, Pa, Pb, Pc]
  refine Ts 4 ?pQ Hl ?rQ
  simp only [Act.put, Pa, Pb, Pc]
  refine Ts 5 ?pR Hl ?rR
  simp only [Act.put, Pa, Pb, Pc]
  refine Ts 6 ?pS Hl ?rS
  simp only [Act.put, Pa, Pb, Pc]
  refine Ts 7 ?pT Hl ?rT
  simp only [Act.put, Pa, Pb, Pc]
  refine Ts 8 ?pU Hl ?rU
  simp only [Act.put, Pa, Pb, Pc]
  refine Ts 9 ?pV Hl ?rV
  simp only [Act.put, Pa, Pb, Pc]
  refine Tm 10 ?pW ?vW Hl ?rW
  simp only [Act.put, Pa, Pb, Pc]
  refine Tm 11 ?pX ?vX Hl ?rX
  simp only [Act.put, Pa, Pb, Pc]
  refine wpAnyH_done (by kernel_rfl) ?_ _
  go_wp2
  go_ret
  exact ⟨rfl, Bu HB1.out Hl Lr⟩
theorem OwnL.adr {α : Type} {Y : Ly α} {t : TypeId} {w : World} {base n cap : Nat} {ad : Option Addr} {l : List α} (h : OwnL Y t w base (.slice ad n cap) l) : (ad = none ∧ cap = 0) ∨ ∃ g, ad = some ⟨g, 0, none⟩ := by
 rcases h.2 with ⟨e, _⟩ | ⟨g, c, _, e, _⟩
 ·simp at e; exact .inl ⟨e.1, e.2.2⟩
 ·simp at e; exact .inr ⟨g, e.1⟩
theorem app1 {w : World} {base : Nat} {v : Value} {l : List V} (x : V) (ho : OwnL vl 48 w base v l) (hb : base ≤ w.heap.size) (hl : l.length + 1 ≤ 1000000) :
  ∃ a' c' w', (∀ ty, (Builtin.append_ #[37, 37] ty #[v, .slice (some ⟨w.heap.size, 0, none⟩) 1 1]).run Tryz.prog (w.alloc (.cells #[.int .i64 x.s, .int .i64 x.b.i, .int .i64 x.b.t, .string x.v] 48)) = .ok (.slice a' (l.length + 1) c') w') ∧ OwnL vl 48 w' base (.slice a' (l.length + 1) c') (l ++ [x]) ∧ Rw w v w' (.slice a' (l.length + 1) c') := by
 obtain ⟨a', c', w4, hrun, ho4, hr4⟩ := run_appL_ty tiV (w.alloc (.cells #[.int .i64 x.s, .int .i64 x.b.i, .int .i64 x.b.t, .string x.v] 48)) base v l [x] w.heap.size 0 1 1 (ho.keep (bel1 w _)) (atL_one (t := 48) (heap_alloc_last w _)) rfl (by simp; omega) (by simp; omega)
 exact ⟨a', c', w4, hrun, ho4, (Rw.ofBelow _ (bel1 w _)).trans hr4⟩
def RV (w : World) (l : List V) (e : Ending) (w' : World) : Prop := ∃ v, e = .returned v ∧ OwnL vl 48 w' w.heap.size v l ∧ Below w.heap.size w w'
theorem RV.mono {w : World} {l : List V} {e : Ending} {w' : World} (h : RV w l e w') : ∃ a c, e = .returned (.slice a l.length c) ∧ XL vl w' a c l ∧ OwnL vl 48 w' w.heap.size (.slice a l.length c) l ∧ Below w.heap.size w w' := by
 obtain ⟨v, rfl, h1, h2⟩ := h
 obtain ⟨a, c, rfl, hx, _⟩ := h1.at
 exact ⟨a, c, rfl, hx, h1, h2⟩
theorem votes_any {w : World} {base b : Nat} {v : Value} {a : M.S} (h : AI w base b v a) (ok : M.Ok a) (kk : Int) : Calls Tryz.prog 54 #[.pointer (some ⟨b, 0, none⟩), .int .i64 kk] w (RV w (M.vts a.l kk)) := by
 obtain ⟨ad, cap, rfl, hxl, hbl⟩ := h.own.at
 have hlen := ok.len
 have hcap := hxl.le
 have hmx : cap ≤ 9223372036854775807 := by have := hxl.mx; unfold maxLen at this; omega
 have hpl := place_any ad cap a.l kk w (by omega) hxl.at' ok.up
 obtain ⟨⟨c0, c1, c2, c3⟩, _⟩ := row4 h.row
 have HR := Hf h.row
 have HAt := Hf hxl
 have HSZ := Hf (fun x hx => Nat.le_trans (ok.vs x hx) (by decide : 4096 ≤ 140737488351232))
 have HA := Hf h.own.adr
 clear ok h hxl hbl
 go_enter Tryz.func54, Tryz.ntmps54
 go_wp2_with fail
 refine hpl.mono ?_; rintro e w1 ⟨r, bb, rfl, hs, hb1⟩
 have HD := Hf hs.drop
 have hrl := hs.le
 obtain ⟨⟨d0, d1, d2, d3⟩, _⟩ := row4 (Br HR.out hb1)
 have hx1 := HAt.out.keep hb1
 have HB1 := Hf hb1
 clear hs hb1 hpl c0 c1 c2 c3 HR HAt
 have HZD : Hid (∀ x ∈ a.l.drop r, x.v.size ≤ 140737488351232) := fun x hx => HSZ.out x (List.mem_of_mem_drop hx)
 have hls : (a.l.drop r).length = a.l.length - r := by simp
 by_cases hcr : cap = r
 ·have hnr : a.l.length = r := by omega
  have HAt : Hid (AtL vl w1 ad (a.l.drop r)) := by
   rw [List.drop_of_length_le (by omega)]
   exact AtL.nil _ _
  subst hcr; clear hx1 HSZ
  generalize a.l.drop cap = D at *
  generalize a.l.length = L at *
  go_wp2
  go_loopw [28, 7] (fun i u wr => ∃ k : Nat, k ≤ D.length ∧ i = .int .i64 k ∧ OwnL vl 48 wr w1.heap.size u (D.take k) ∧ Below w1.heap.size w1 wr) (fun i u _ => D.length - (intOf i).toNat)
  case atStart => exact ⟨0, Nat.zero_le _, rfl, OwnL.nil _ _ _, Below.refl _ _⟩
  case round =>
   obtain ⟨k, hk, rfl, ho, hbl⟩ := hrel
   obtain ⟨a1, cap1, hv1, hx1, _⟩ := ho.at
   have hlen : (D.take k).length = k := by simp; omega
   rw [hlen] at hv1; subst hv1
   by_cases hlt : k < D.length
   ·exact absurd hlt (by omega)
   ·obtain rfl : k = D.length := by omega
    have HQ : Hid (RV w (M.vts a.l kk) (.returned (.slice a1 D.length cap1)) wr) := by
     rw [← HD.out]
     exact ⟨_, rfl, by rw [List.take_of_length_le Lr] at ho; exact ho.low HB1.out.size, Bu HB1.out hbl Lr⟩
    clear ho hbl hx1; go_wp2
    go_ret
    exact HQ.out
 ·obtain ⟨g, rfl⟩ : ∃ g, ad = some ⟨g, 0, none⟩ := by
   rcases HA.out with ⟨_, h0⟩ | h0
   ·omega
   ·exact h0
  have HAt : Hid (AtL vl w1 (some ⟨g, r * 4, none⟩) (a.l.drop r)) := by
   have e := hx1.at'.drop r
   rw [Nat.zero_add] at e
   exact e
  clear hx1 HSZ
  generalize a.l.drop r = D at *
  generalize a.l.length = L at *
  go_wp2
  go_loopw [28, 7] (fun i u wr => ∃ k : Nat, k ≤ D.length ∧ i = .int .i64 k ∧ OwnL vl 48 wr w1.heap.size u (D.take k) ∧ Below w1.heap.size w1 wr) (fun i u _ => D.length - (intOf i).toNat)
  case atStart => exact ⟨0, Nat.zero_le _, rfl, OwnL.nil _ _ _, Below.refl _ _⟩
  case round =>
   obtain ⟨k, hk, rfl, ho, hbl⟩ := hrel
   obtain ⟨a1, cap1, hv1, hx1, _⟩ := ho.at
   have hlen : (D.take k).length = k := by simp; omega
   rw [hlen] at hv1; subst hv1
   by_cases hlt : k < D.length
   ·obtain ⟨g0, off0, eA, q0, q1, q2, q3⟩ := (HAt.out.keep hbl).getV k hlt
    have HT : Hid (D.take (k + 1) = D.take k ++ [D[k]]) := Hf (List.take_succ_eq_append_getElem hlt)
    obtain ⟨W1, HW1⟩ := Nh (wr.alloc (.cells #[.int .i64 D[k].s, .int .i64 D[k].b.i, .int .i64 D[k].b.t, .string D[k].v] 48))
    have hb1 : Below wr.heap.size wr W1 := by rw [← HW1.out]; exact bel1 wr _
    have hbox : W1.heap[wr.heap.size]? = some (.cells #[.int .i64 D[k].s, .int .i64 D[k].b.i, .int .i64 D[k].b.t, .string D[k].v] 48 (0, 0)) := by rw [← HW1.out]; exact heap_alloc_last wr _
    obtain ⟨⟨z0, z1, z2, z3⟩, _⟩ := row4 hbox
    have how := own_any D[k] W1 (HZD.out _ (List.getElem_mem _))
    have HO := Hf ho
    have HBL := Hf hbl
    have HB := Hf hb1
    clear ho hbl hx1 hb1 hbox
    generalize D[k] = x at *
    obtain ⟨s, ⟨i, t⟩, vv⟩ := x
    simp only [vV] at how q0 q1 q2 q3 z0 z1 z2 z3
    cases eA
    go_upto_region 8 with fail
    rw [HW1.out]
    go_wp2_with fail
    refine how.mono ?_; rintro e w2 ⟨rfl, hb2⟩
    have ho2 := (HO.out.keep HB.out).keep hb2
    have hbw : Below wr.heap.size wr w2 := Bu HB.out hb2 Lr
    obtain ⟨a', c', w4, hrun, ho4, hr4⟩ := app1 ⟨s, ⟨i, t⟩, vv⟩ ho2 (by have := HBL.out.size; have := hbw.size; omega) (by rw [hlen]; omega)
    rw [hlen] at hrun ho4 hr4
    simp only at hrun
    have hr6 : Rw wr (.slice a1 k cap1) w4 (.slice a' (k + 1) c') := (Rw.ofBelow _ hbw).trans hr4
    have HB4 : Hid (Below w1.heap.size w1 w4) := HBL.out.trans (hr6.below (fun j hj => (HO.out.lt hj).1) HBL.out.size)
    have HO4 := Hf ho4
    clear how ho2 hbw ho4 hr4 hr6 hb2 HO HBL HB
    go_wp2_with (at_builtin; refine wpList_append_known rfl _ _ 37 rfl _ _ rfl rfl _ _ (hrun _) ?_)
    go_roundw
    case rel => exact ⟨k + 1, by omega, by go_num, by rw [HT.out]; exact HO4.out, HB4.out⟩
    case measure => simp [intOf]; omega
   ·obtain rfl : k = D.length := by omega
    have HQ : Hid (RV w (M.vts a.l kk) (.returned (.slice a1 D.length cap1)) wr) := by
     rw [← HD.out]
     exact ⟨_, rfl, by rw [List.take_of_length_le Lr] at ho; exact ho.low HB1.out.size, Bu HB1.out hbl Lr⟩
    clear ho hbl hx1; go_wp2
    go_ret
    exact HQ.out
def put2 (w : World) (g : Nat) (a b : Value) : World := (w.setCell ⟨g, 0, none⟩ a).setCell ⟨g, 1, none⟩ b
theorem fr_set {w w1 : World} {F G : Nat → Prop} {b : Nat} (h : Fr w F w1 G) (hb : F b) (o : Nat) (x : Value) : Fr w F (w1.setCell ⟨b, o, none⟩ x) G :=
 ⟨h.os, h.tape, h.output, by simpa using h.size, fun k hk hF => by rw [heap_setCell_other w1 ⟨b, o, none⟩ k _ (fun e => hF (by subst e; exact hb))]; exact h.block k hk hF, h.n⟩
theorem AI.setP {w : World} {base b : Nat} {v : Value} {a : M.S} (h : AI w base b v a) (x : E) : AI (put2 w b (.int .i64 x.i) (.int .i64 x.t)) base b v ⟨x, a.base, a.l⟩ := by
 refine ⟨?_, ?_, h.ap, h.lo⟩
 ·exact heap_setCell_same _ b 1 _ _ _ (heap_setCell_same w b 0 _ _ _ h.row)
 ·refine h.own.keepBut fun k hk e => ?_
  have hne : k ≠ b := fun e' => h.ap (by rw [← e']; exact e)
  unfold put2; rw [heap_setCell_other _ ⟨b, 1, none⟩ k _ hne, heap_setCell_other _ ⟨b, 0, none⟩ k _ hne]
def PrOut (w : World) (base b : Nat) (v : Value) (a : M.S) (x : E) (k : Int) (e : Ending) (w' : World) : Prop :=
 ∃ u, e = .returned (.tuple #[u, .bool (M.prb a x k)]) ∧ OwnL vl 48 w' w.heap.size u (M.prl a x k) ∧ AI w' base b v (M.prs a x k) ∧ Fr w (fpa b v) w' (fpa b v)
theorem promise_any {w : World} {base b : Nat} {v : Value} {a : M.S} (h : AI w base b v a) (ok : M.Ok a) (x : E) (k : Int) : Calls Tryz.prog 57 #[.pointer (some ⟨b, 0, none⟩), bV x, .int .i64 k] w (PrOut w base b v a x k) := by
 obtain ⟨W1, HW1⟩ := Nh (w.alloc (.cells #[.int .i64 x.i, .int .i64 x.t] 36))
 have hb1 : Below w.heap.size w W1 := by rw [← HW1.out]; exact bel1 w _
 have hr1 : W1.heap[w.heap.size]? = some (.cells #[.int .i64 x.i, .int .i64 x.t] 36 (0, 0)) := by rw [← HW1.out]; exact heap_alloc_last w _
 have h1 := h.keep hb1
 have hm := may_any h1 x
 obtain ⟨⟨z0, z1⟩, _⟩ := row2 hr1
 have HR1 := Hf hr1
 have HH1 := Hf h1
 have HB1 := Hf hb1
 have HP : Hid (M.prb a x k = (M.may a x && decide (a.base ≤ k))) := rfl
 have HNO : Hid (M.prb a x k = false → ∀ w', Below w.heap.size w w' → PrOut w base b v a x k (.returned (.tuple #[.slice none 0 0, .bool false])) w') := by
  intro hp w' hb
  refine ⟨.slice none 0 0, by rw [hp], ?_, ?_, Fr.ofBelow hb⟩
  ·have e : M.prl a x k = [] := by unfold M.prl; rw [hp]; rfl
   rw [e]; exact OwnL.nil _ _ _
  ·rw [M.prs_no hp]; exact h.keep hb
 have HYES : Hid (M.prb a x k = true → ∀ w2 w3 u, Below w.heap.size w w2 → OwnL vl 48 w3 (put2 w2 b (.int .i64 x.i) (.int .i64 x.t)).heap.size u (M.vts a.l k) → Below (put2 w2 b (.int .i64 x.i) (.int .i64 x.t)).heap.size (put2 w2 b (.int .i64 x.i) (.int .i64 x.t)) w3 → PrOut w base b v a x k (.returned (.tuple #[u, .bool true])) w3) := by
  intro hp w2 w3 u hb ho hb3
  refine ⟨u, by rw [hp], ?_, ?_, ?_⟩
  ·have e : M.prl a x k = M.vts a.l k := by unfold M.prl; rw [hp]; rfl
   rw [e]; exact ho.low (by have := hb.size; simp [put2]; omega)
  ·rw [M.prs_yes hp]; exact ((h.keep hb).setP x).keep hb3
  ·exact (fr_set (fr_set (Fr.ofBelow hb) (.inl rfl) 0 _) (.inl rfl) 1 _).up hb3
 clear h h1 hb1 hr1
 cases hmx : M.may a x with
 | false =>
  rw [hmx] at hm
  have HQ := Hf (HNO.out (by rw [HP.out, hmx]; rfl))
  clear HNO HYES HP hmx
  go_enter Tryz.func57, Tryz.ntmps57
  go_upto_region 1 with fail
  rw [HW1.out]
  go_wp2_with fail
  refine hm.mono ?_; rintro e w2 ⟨rfl, hb2⟩
  have HB2 := Hf (Bu HB1.out hb2 Lr)
  clear hb2 hm; go_wp2
  go_ret2
  exact HQ.out _ HB2.out
 | true =>
  rw [hmx] at hm
  by_cases hk : a.base ≤ k
  ·have hp : M.prb a x k = true := by rw [HP.out, hmx, decide_eq_true hk]; rfl
   have HQ := Hf (HYES.out hp)
   have HOK : Hid (M.Ok ⟨x, a.base, a.l⟩) := by have := M.prs_ok ok x k; rw [M.prs_yes hp] at this; exact this
   have d0 : decide (k < a.base) = false := decide_eq_false (by omega)
   clear HNO HYES HP hmx hp ok hk
   go_enter Tryz.func57, Tryz.ntmps57
   go_upto_region 1 with fail
   rw [HW1.out]
   go_wp2_with fail
   refine hm.mono ?_; rintro e w2 ⟨rfl, hb2⟩
   have HB2 := Hf (Bu HB1.out hb2 Lr)
   have h2 := HH1.out.keep hb2
   obtain ⟨⟨y0, y1⟩, _⟩ := row2 (Br HR1.out hb2)
   obtain ⟨⟨c0, c1, c2, c3⟩, cf⟩ := row4 h2.row
   have f0 := cf 0
   have f1 := cf 1
   have hv := votes_any (h2.setP x) HOK.out k
   clear hb2 hm h2 cf z0 z1 HR1 HH1 HB1
   obtain ⟨W3, HW3⟩ := Nh (put2 w2 b (.int .i64 x.i) (.int .i64 x.t))
   have HW3' : Hid ((w2.setCell ⟨b, 0, none⟩ (.int .i64 x.i)).setCell ⟨b, 1, none⟩ (.int .i64 x.t) = W3) := HW3.out
   have HQ' := Hf (HQ.out w2)
   rw [HW3.out] at hv HQ'; clear HQ HW3
   go_wp2_with fail
   rw [HW3'.out]
   refine hv.mono ?_; rintro e w4 ⟨u, rfl, ho, hb4⟩
   have HF := Hf (HQ'.out w4 u HB2.out ho hb4)
   clear hv ho hb4; go_wp2
   go_ret2
   exact HF.out
  ·have HQ := Hf (HNO.out (by rw [HP.out, hmx, decide_eq_false hk]; rfl))
   have d0 : decide (k < a.base) = true := decide_eq_true (by omega)
   clear HNO HYES HP hmx ok hk
   go_enter Tryz.func57, Tryz.ntmps57
   go_upto_region 1 with fail
   rw [HW1.out]
   go_wp2_with fail
   refine hm.mono ?_; rintro e w2 ⟨rfl, hb2⟩
   have HB2 := Hf (Bu HB1.out hb2 Lr)
   obtain ⟨⟨c0, c1, c2, c3⟩, _⟩ := row4 (HH1.out.keep hb2).row
   clear hb2 hm; go_wp2
   go_ret2
   exact HQ.out _ HB2.out
def putO (w : World) (g o : Nat) (a b c d : Value) : World := (((w.setCell ⟨g, o, none⟩ a).setCell ⟨g, o + 1, none⟩ b).setCell ⟨g, o + 2, none⟩ c).setCell ⟨g, o + 3, none⟩ d
theorem putO_oth {w : World} {g k o : Nat} (h : k ≠ g) (a b c d : Value) : (putO w g o a b c d).heap[k]? = w.heap[k]? := by
 unfold putO; rw [heap_setCell_other _ ⟨g, o + 3, none⟩ k _ h, heap_setCell_other _ ⟨g, o + 2, none⟩ k _ h, heap_setCell_other _ ⟨g, o + 1, none⟩ k _ h, heap_setCell_other _ ⟨g, o, none⟩ k _ h]
theorem OwnL.setV {w : World} {base : Nat} {v : Value} {l : List V} (h : OwnL vl 48 w base v l) (i : Nat) (hi : i < l.length) (x : V) :
  ∃ g cap, v = .slice (some ⟨g, 0, none⟩) l.length cap ∧ base ≤ g ∧ g < w.heap.size ∧ (∃ a b c d, w.cell? ⟨g, i * 4, none⟩ = some a ∧ w.cell? ⟨g, i * 4 + 1, none⟩ = some b ∧ w.cell? ⟨g, i * 4 + 2, none⟩ = some c ∧ w.cell? ⟨g, i * 4 + 3, none⟩ = some d) ∧ (∀ j, w.frozen? ⟨g, j, none⟩ = false) ∧ OwnL vl 48 (putO w g (i * 4) (.int .i64 x.s) (.int .i64 x.b.i) (.int .i64 x.b.t) (.string x.v)) base v (l.set i x) := by
 obtain ⟨g, cap, hv, hb, hlt, k0, hf, h0⟩ := h.set1 i hi 0 (by decide)
 obtain ⟨_, _, hv1, _, _, k1, _, _⟩ := h.set1 i hi 1 (by decide)
 obtain ⟨_, _, hv2, _, _, k2, _, _⟩ := h.set1 i hi 2 (by decide)
 obtain ⟨_, _, hv3, _, _, k3, _, _⟩ := h.set1 i hi 3 (by decide)
 rw [hv] at hv1 hv2 hv3
 simp only [Value.slice.injEq, Option.some.injEq, Addr.mk.injEq, and_true] at hv1 hv2 hv3
 obtain ⟨rfl, _⟩ := hv1
 obtain ⟨rfl, _⟩ := hv2
 obtain ⟨rfl, _⟩ := hv3
 refine ⟨g, cap, hv, hb, hlt, ⟨_, _, _, _, k0, k1, k2, k3⟩, hf, ?_⟩
 have H0 := h0 ⟨x.s, l[i].b, l[i].v⟩ (.int .i64 x.s) rfl
 obtain ⟨g1, _, hv1, _, _, _, _, h1⟩ := H0.set1 i (by simpa using hi) 1 (by decide)
 have H1 := h1 ⟨x.s, ⟨x.b.i, l[i].b.t⟩, l[i].v⟩ (.int .i64 x.b.i) (by rw [List.getElem_set_self]; rfl)
 rw [List.set_set] at H1
 obtain ⟨g2, _, hv2, _, _, _, _, h2⟩ := H1.set1 i (by simpa using hi) 2 (by decide)
 have H2 := h2 ⟨x.s, ⟨x.b.i, x.b.t⟩, l[i].v⟩ (.int .i64 x.b.t) (by rw [List.getElem_set_self]; rfl)
 rw [List.set_set] at H2
 obtain ⟨g3, _, hv3, _, _, _, _, h3⟩ := H2.set1 i (by simpa using hi) 3 (by decide)
 have H3 := h3 x (.string x.v) (by rw [List.getElem_set_self]; rfl)
 rw [List.set_set] at H3; rw [hv] at hv1 hv2 hv3
 simp only [Value.slice.injEq, Option.some.injEq, Addr.mk.injEq, and_true] at hv1 hv2 hv3
 obtain ⟨rfl, _⟩ := hv1
 obtain ⟨rfl, _⟩ := hv2
 obtain ⟨rfl, _⟩ := hv3
 exact H3
def AcOut (w : World) (base b : Nat) (v : Value) (a : M.S) (x : V) (e : Ending) (w' : World) : Prop :=
 ∃ v', e = .returned (.bool (M.acb a x)) ∧ AI w' base b v' (M.acs a x) ∧ Fr w (fpa b v) w' (fpa b v')
theorem accept_no {w : World} {base b : Nat} {v : Value} {a : M.S} (h : AI w base b v a) (x : V) (hno : M.acb a x = false) : Calls Tryz.prog 62 #[.pointer (some ⟨b, 0, none⟩), vV x] w (AcOut w base b v a x) := by
 obtain ⟨W1, HW1⟩ := Nh (w.alloc (.cells #[.int .i64 x.s, .int .i64 x.b.i, .int .i64 x.b.t, .string x.v] 48))
 have hb1 : Below w.heap.size w W1 := by rw [← HW1.out]; exact bel1 w _
 have hr1 : W1.heap[w.heap.size]? = some (.cells #[.int .i64 x.s, .int .i64 x.b.i, .int .i64 x.b.t, .string x.v] 48 (0, 0)) := by rw [← HW1.out]; exact heap_alloc_last w _
 have h1 := h.keep hb1
 have hm := may_any h1 x.b
 obtain ⟨⟨z0, z1, z2, z3⟩, _⟩ := row4 hr1
 have HR1 := Hf hr1
 have HH1 := Hf h1
 have HB1 := Hf hb1
 have HQ : Hid (∀ w', Below w.heap.size w w' → AcOut w base b v a x (.returned (.bool false)) w') := fun w' hb => ⟨v, by rw [hno], by rw [M.acs_no hno]; exact h.keep hb, Fr.ofBelow hb⟩
 have HA : Hid ((M.may a x.b && decide (a.base ≤ x.s) && decide (x.s < 1024) && decide (x.v.size ≤ 4096)) = false) := hno
 clear h h1 hb1 hr1 hno
 cases hmx : M.may a x.b with
 | false =>
  rw [hmx] at hm; clear hmx HA
  go_enter Tryz.func62, Tryz.ntmps62
  go_upto_region 1 with fail
  rw [HW1.out]
  go_wp2_with fail
  refine hm.mono ?_; rintro e w2 ⟨rfl, hb2⟩
  have HB2 := Hf (Bu HB1.out hb2 Lr)
  obtain ⟨⟨y0, y1, y2, y3⟩, _⟩ := row4 (Br HR1.out hb2)
  clear hb2 hm; go_wp2
  go_ret
  exact HQ.out _ HB2.out
 | true =>
  rw [hmx] at hm
  by_cases hsl : a.base ≤ x.s ∧ x.s < 1024
  ·have hsz : 4096 < x.v.size := by
    have := HA.out
    rw [hmx, decide_eq_true hsl.1, decide_eq_true hsl.2] at this
    simpa using this
   have hsd : (decide (a.base ≤ x.s) && decide (x.s < 1024)) = true := by rw [decide_eq_true hsl.1, decide_eq_true hsl.2]; rfl
   have d0 : decide ((4096 : Int) < (x.v.size : Int)) = true := decide_eq_true (by omega)
   clear hmx HA hsl hsz
   go_enter Tryz.func62, Tryz.ntmps62
   go_upto_region 1 with fail
   rw [HW1.out]
   go_wp2_with fail
   refine hm.mono ?_; rintro e w2 ⟨rfl, hb2⟩
   have HB2 := Hf (Bu HB1.out hb2 Lr)
   obtain ⟨⟨y0, y1, y2, y3⟩, _⟩ := row4 (Br HR1.out hb2)
   have hs := hasSlot_any (HH1.out.keep hb2) x.s
   rw [hsd] at hs; clear hb2 hm hsd
   go_wp2_with fail
   refine hs.mono ?_; rintro e w3 ⟨rfl, rfl⟩
   clear hs; go_wp2
   go_ret
   exact HQ.out _ HB2.out
  ·have hsd : (decide (a.base ≤ x.s) && decide (x.s < 1024)) = false := by
    cases hq : (decide (a.base ≤ x.s) && decide (x.s < 1024)) with
    | false => rfl
    | true => exact absurd (by simpa using hq) hsl
   clear hmx HA hsl
   go_enter Tryz.func62, Tryz.ntmps62
   go_upto_region 1 with fail
   rw [HW1.out]
   go_wp2_with fail
   refine hm.mono ?_; rintro e w2 ⟨rfl, hb2⟩
   have HB2 := Hf (Bu HB1.out hb2 Lr)
   obtain ⟨⟨y0, y1, y2, y3⟩, _⟩ := row4 (Br HR1.out hb2)
   have hs := hasSlot_any (HH1.out.keep hb2) x.s
   rw [hsd] at hs; clear hb2 hm hsd
   go_wp2_with fail
   refine hs.mono ?_; rintro e w3 ⟨rfl, rfl⟩
   clear hs; go_wp2
   go_ret
   exact HQ.out _ HB2.out
end Go.Proofs.YtlnedgjikkhplaaGreat.Na
