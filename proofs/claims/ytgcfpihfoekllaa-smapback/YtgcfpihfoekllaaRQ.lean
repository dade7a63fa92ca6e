/- Read, Get; stripes that are none. -/
import Derived.Test.YtgcfpihfoekllaaRO

namespace Go.Proofs.Ytgcfpihfoekllaa

open Go.RowKit

set_option linter.unusedVariables false

open Sm (S)

section
variable {w w' wr : World} {base b : Nat} {v : Value} {es : List E} {n : Int} {F : Nat → Prop} {m : List S}
/-- What Read leaves. -/
def RdOut (w : World) (l : List UInt8) (e : Ending) (w' : World) : Prop :=
  Below w.heap.size w w' ∧ ((∃ bm F acc, Sm.Tell l acc ∧ e = .returned (.tuple #[.pointer (some ⟨bm, 0, none⟩), .int .i64 0]) ∧ MM w' w.heap.size bm F acc) ∨ ((¬ ∃ m, Sm.Tell l m) ∧ e = .returned (.tuple #[.pointer none, .int .i64 3])))
theorem MI.low (h : MI w base b v es n) {B : Nat} (hB : B ≤ base) : MI w B b v es n := ⟨h.row, h.own.low hB, fun e he => (h.sv e he).low hB, h.nd, h.nb, h.ne, Nat.le_trans hB h.lo, h.id⟩
theorem MM.low (h : MM w base b F m) {B : Nat} (hB : B ≤ base) : MM w B b F m := by
  obtain ⟨v, es, hF, h1, h2, h3⟩ := h
  exact ⟨v, es, hF, h1.low hB, h2, h3⟩
set_option maxHeartbeats 1000000 in
theorem read_any (l : List UInt8) (w : World) (hl : l.length ≤ 1000000) : Calls Try.prog 23 #[.string (ofL l)] w (RdOut w l) := by
  have hnr := newReader_any l w (by omega)
  go_enter Try.func23, Try.ntmps23
  go_wp2_with fail
  refine hnr.mono ?_
  rintro e w1 ⟨br, rfl, hbr, hr1, hb1⟩
  have hrm := readMap_any br l w1 hr1 hl
  have HB1 := Hid_of hb1
  have HBR := Hid_of hbr
  clear hnr hr1 hb1 hbr
  go_wp2_with fail
  refine hrm.mono ?_
  rintro e w2 ⟨hg, hc⟩
  have HB2 : Hid (Below w.heap.size w w2) := Hid_of (HB1.out.trans (below_grown hg HB1.out.size fun k hk => by
    have := HBR.out
    simp only [Option.some.injEq] at hk
    omega))
  clear hrm hg
  rcases hc with ⟨ro, bm, F, acc, rfl, hro, hrl, hmm, hyes, hno⟩ | ⟨hT, rfl⟩
  · have hrd := rdone_any br ro w2 hro (by omega)
    have HMM : Hid (MM w2 w.heap.size bm F acc) := Hid_of (hmm.low HB1.out.size)
    rcases rdone_eq ro with ⟨q1, q2⟩ | ⟨q1, q2⟩
    · rw [q1] at hrd
      have HT := Hid_of (hyes q2)
      clear hyes hno hmm hro hrl q1 q2 HB1 HBR
      go_wp2_with fail
      refine hrd.mono ?_
      rintro e w3 ⟨rfl, hw⟩
      subst w3
      clear hrd
      go_wp2
      go_ret2
      exact ⟨HB2.out, .inl ⟨bm, F, acc, HT.out, rfl, HMM.out⟩⟩
    · rw [q1] at hrd
      have HT := Hid_of (hno q2)
      clear hyes hno hmm hro hrl q1 q2 HB1 HBR HMM
      go_wp2_with fail
      refine hrd.mono ?_
      rintro e w3 ⟨rfl, hw⟩
      subst w3
      clear hrd
      go_wp2
      go_ret2
      exact ⟨HB2.out, .inr ⟨HT.out, rfl⟩⟩
  · have HT := Hid_of hT
    clear hT HB1 HBR
    go_wp2
    go_ret2
    exact ⟨HB2.out, .inr ⟨HT.out, rfl⟩⟩
/-- No stripe. -/
abbrev e0 : E := ⟨0, ⟨0, 0, 0, 0, []⟩, none, 0⟩
/-- What Get leaves. -/
def GetOut (w : World) (m : List S) (i : Int) (e : Ending) (w' : World) : Prop :=
  Below w.heap.size w w' ∧ ((Sm.at' m i = none ∧ e = .returned (.tuple #[eV e0, .bool false])) ∨ (∃ s a c, Sm.at' m i = some s ∧ e = .returned (.tuple #[eV ⟨i, s, a, c⟩, .bool true]) ∧ OwnL il 3 w' w.heap.size (.slice a s.l.length c) s.l))
theorem f12_res : Try.f12.results = #[.cell 4 34, .tmp 5] := rfl
theorem getN (i : Int) (w : World) : Calls Try.prog 12 #[.pointer none, .int .i64 i] w fun e w' => e = .returned (.tuple #[eV e0, .bool false]) ∧ Below w.heap.size w w' := by
  have HR := Hid_of (heap_alloc_last w (eO e0))
  have HB := Hid_of (bel1 w (eO e0))
  have hf := findN i (w.alloc (eO e0))
  go_enter Try.func12, Try.ntmps12
  go_wp2_with fail
  refine hf.mono ?_
  rintro e w1 ⟨rfl, hw1⟩
  subst w1
  clear hf
  go_wp2
  refine bodyPost_ret (v := .tuple #[eV e0, .bool false]) ?_ rfl ⟨rfl, HB.out⟩
  exact res34_2 f12_res _ _ w.heap.size _ _ _ _ _ _ rfl HR.out
set_option maxRecDepth 100000 in
set_option maxHeartbeats 1000000 in
theorem get_any (h : MM w base b F m) (i : Int) : Calls Try.prog 12 #[.pointer (some ⟨b, 0, none⟩), .int .i64 i] w (GetOut w m i) := by
  obtain ⟨v, es, rfl, hM, rfl, hG⟩ := h
  have hb1 := bel1 w (eO e0)
  have HR := Hid_of (heap_alloc_last w (eO e0))
  have HB1 := Hid_of hb1
  by_cases hi : i < 0 ∨ (es.length : Int) ≤ i
  · have hf := find_out (hM.keep hb1) i hi
    have HQ : Hid (GetOut w (es.map (·.s)) i (.returned (.tuple #[eV e0, .bool false])) (w.alloc (eO e0))) := Hid_of ⟨hb1, .inl ⟨Sm.at_out (by simpa using hi), rfl⟩⟩
    clear hi hM hG hb1
    go_enter Try.func12, Try.ntmps12
    go_wp2_with fail
    refine hf.mono ?_
    rintro e w1 ⟨rfl, hw1⟩
    subst w1
    clear hf
    go_wp2
    refine bodyPost_ret (v := .tuple #[eV e0, .bool false]) ?_ rfl HQ.out
    exact res34_2 f12_res _ _ w.heap.size _ _ _ _ _ _ rfl HR.out
  · obtain ⟨k, rfl⟩ := Int.eq_ofNat_of_zero_le (show 0 ≤ i by omega)
    have hk : k < es.length := by omega
    obtain ⟨g, cap, hv, hE, _, _⟩ := (hM.keep hb1).get k hk
    have hf := find_in (hM.keep hb1) k hk hv
    have hid := hM.id k hk
    have hl8 := (hG.get (i := k) (by simpa using hk)).2.2.2.2.2
    simp only [List.getElem_map] at hl8
    have hAT : Hid (Sm.at' (es.map (·.s)) k = some es[k].s) := Hid_of (by
      obtain ⟨q, e⟩ := Sm.at_in (m := es.map (·.s)) (i := (k : Int)) (by omega) (by simp; omega)
      rw [e]; simp)
    have hb2 := bel1 (w.alloc (eO e0)) (eO es[k])
    have hsv := ((hM.sv _ (List.getElem_mem hk)).at.keep hb1).keep hb2
    have hE2 : EAt ((w.alloc (eO e0)).alloc (eO es[k])) g (k * 6) es[k] := by
      obtain ⟨g', cap', hv', hE', _, _⟩ := ((hM.keep hb1).keep hb2).get k hk
      have e : g' = g := by rw [hv] at hv'; simp only [Value.slice.injEq, Option.some.injEq, Addr.mk.injEq] at hv'; exact hv'.1.1.symm
      rw [e] at hE'
      exact hE'
    have hcl := cloned_any es[k].a es[k].c es[k].s.l ((w.alloc (eO e0)).alloc (eO es[k])) (by have := hl8.2.1; omega) (by have := hl8.1; omega) hsv
    have hrow2 := heap_alloc_last (w.alloc (eO e0)) (eO es[k])
    have hsz : (w.alloc (eO e0)).heap.size = w.heap.size + 1 := by simp
    rw [hsz] at hrow2
    have HRW := Hid_of hrow2
    have HB2 := Hid_of (bel_up hb1 hb2 (Nat.le_refl _))
    have HB12 := Hid_of hb2
    obtain ⟨c0, c1, c2, c3, c4, c5⟩ := hE
    obtain ⟨_, _, _, _, _, d5⟩ := hE2
    clear hM hG hv hb1 hb2 hsv hl8 hrow2 hi hsz
    rw [← hid]
    rw [← hid] at hf hAT
    clear hid
    generalize es[k] = x at *
    go_enter Try.func12, Try.ntmps12
    go_wp2_with fail
    refine hf.mono ?_
    rintro e w1 ⟨rfl, hw1⟩
    subst w1
    clear hf
    go_wp2_with fail
    refine hcl.mono ?_
    rintro e w2 ⟨g2, c2', rfl, ho, hb3⟩
    have hr3 := bel_row HRW.out hb3
    have hr0 := bel_row (bel_row HR.out HB12.out) hb3
    obtain ⟨⟨k0, k1, k2, k3, k4, k5⟩, kf⟩ := row_cells hr3
    obtain ⟨⟨z0, z1, z2, z3, z4, z5⟩, zf⟩ := row_cells hr0
    obtain ⟨W3, HW3⟩ : ∃ W3, Hid (w2.setCell ⟨w.heap.size + 1, 5, none⟩ (.slice (some ⟨g2, 0, none⟩) x.s.l.length c2') = W3) := ⟨_, rfl⟩
    have hlo : w.heap.size + 2 ≤ g2 := by have := (ho.lt (b := g2) rfl).1; simp at this; omega
    have hr4 : W3.heap[w.heap.size + 1]? = some (eO ⟨x.id, x.s, some ⟨g2, 0, none⟩, c2'⟩) := by rw [← HW3.out]; exact heap_setCell_same w2 _ 5 _ _ _ hr3
    have hr5 : W3.heap[w.heap.size]? = some (eO e0) := by rw [← HW3.out, heap_setCell_other w2 ⟨w.heap.size + 1, 5, none⟩ w.heap.size _ (by show ¬ w.heap.size = w.heap.size + 1; omega)]; exact hr0
    obtain ⟨⟨m0, m1, m2, m3, m4, m5⟩, mf⟩ := row_cells hr4
    obtain ⟨⟨y0, y1, y2, y3, y4, y5⟩, yf⟩ := row_cells hr5
    have HROW := Hid_of (put6_row hr5 (.int .i64 x.id) (.int .i64 x.s.st) (.int .i64 x.s.ow) (.int .i64 x.s.ep) (.int .i64 x.s.ln) (.slice (some ⟨g2, 0, none⟩) x.s.l.length c2'))
    have HQ : Hid (GetOut w (es.map (·.s)) x.id (.returned (.tuple #[eV ⟨x.id, x.s, some ⟨g2, 0, none⟩, c2'⟩, .bool true])) (put6 W3 w.heap.size (.int .i64 x.id) (.int .i64 x.s.st) (.int .i64 x.s.ow) (.int .i64 x.s.ep) (.int .i64 x.s.ln) (.slice (some ⟨g2, 0, none⟩) x.s.l.length c2'))) := by
      refine Hid_of ⟨put6_bel ?_ (Nat.le_refl _) _ _ _ _ _ _, .inr ⟨x.s, _, _, hAT.out, rfl, ?_⟩⟩
      · rw [← HW3.out]
        refine Below.setCell (bel_up HB2.out hb3 (Nat.le_refl _)) ?_ _
        show w.heap.size ≤ w.heap.size + 1
        omega
      · refine (ho.low (by simp; omega)).keepBut fun j _ hj => ?_
        have hj : some g2 = some j := hj
        simp only [Option.some.injEq] at hj
        subst hj
        rw [put6_oth (by omega), ← HW3.out, heap_setCell_other w2 ⟨w.heap.size + 1, 5, none⟩ g2 _ (by show ¬ g2 = w.heap.size + 1; omega)]
    clear hcl ho hb3 hr3 hr0 hr4 hr5 hlo HR HRW HB2 HB12 hAT
    go_upto_region 6 with fail
    rw [HW3.out]
    clear HW3 k0 k1 k2 k3 k4 k5 kf z0 z1 z2 z3 z4 z5 zf
    go_wp2
    refine bodyPost_ret (v := .tuple #[eV ⟨x.id, x.s, some ⟨g2, 0, none⟩, c2'⟩, .bool true]) ?_ rfl HQ.out
    exact res34_2 f12_res _ _ w.heap.size _ _ _ _ _ _ rfl HROW.out
end
/-! Stripes that are none. -/
theorem beginN (ow ep ln : Int) (a : Option Addr) (n c : Nat) (w : World) : Calls Try.prog 26 #[.pointer none, .int .i64 ow, .int .i64 ep, .int .i64 ln, .slice a n c] w fun e w' => e = .returned (.tuple #[.int .i64 0, .int .i64 1]) ∧ Below w.heap.size w w' := by
  have HB := Hid_of (bel1 w (.cells #[.int .i64 0, .int .i64 1, .int .i64 ow, .int .i64 ep, .int .i64 ln, .slice a n c] 34))
  go_enter Try.func26, Try.ntmps26
  go_wp2
  go_ret2
  exact ⟨rfl, HB.out⟩
theorem commitN (i o : Int) (w : World) : Calls Try.prog 27 #[.pointer none, .int .i64 i, .int .i64 o] w fun e w' => e = .returned (.int .i64 1) ∧ w' = w := by
  go_enter Try.func27, Try.ntmps27
  go_wp2
  go_ret
  exact ⟨rfl, rfl⟩
theorem freeN (i : Int) (w : World) : Calls Try.prog 28 #[.pointer none, .int .i64 i] w fun e w' => e = .returned (.int .i64 1) ∧ w' = w := by
  go_enter Try.func28, Try.ntmps28
  go_wp2
  go_ret
  exact ⟨rfl, rfl⟩
theorem moveN (i x y : Int) (w : World) : Calls Try.prog 29 #[.pointer none, .int .i64 i, .int .i64 x, .int .i64 y] w fun e w' => e = .returned (.int .i64 1) ∧ w' = w := by
  have hf := findN i w
  go_enter Try.func29, Try.ntmps29
  go_wp2_with fail
  refine hf.mono ?_
  rintro e w1 ⟨rfl, hw1⟩
  subst w1
  clear hf
  go_wp2
  go_ret
  exact ⟨rfl, rfl⟩
set_option maxHeartbeats 1000000 in
theorem same_any (x y : E) (w : World) (hid : x.id = y.id) (hs : x.s = y.s) (hl : x.s.l.length ≤ 1000000) (hx : AtL il w x.a x.s.l) (hy : AtL il w y.a y.s.l) : Calls Try.prog 14 #[eV x, eV y] w fun e w' => e = .returned (.bool true) ∧ Below w.heap.size w w' := by
  obtain ⟨i, s, a, c⟩ := x
  obtain ⟨i', s', a', c'⟩ := y
  simp only at hid hs hx hy hl
  subst hid hs
  have hb1 := bel1 w (eO ⟨i, s, a, c⟩)
  have hb2 := bel1 (w.alloc (eO ⟨i, s, a, c⟩)) (eO ⟨i, s, a', c'⟩)
  obtain ⟨c0, c1, c2, c3, c4, c5⟩ := (row_cells (bel_row (heap_alloc_last w (eO ⟨i, s, a, c⟩)) hb2)).1
  have hr2 := heap_alloc_last (w.alloc (eO ⟨i, s, a, c⟩)) (eO ⟨i, s, a', c'⟩)
  have hsz : (w.alloc (eO ⟨i, s, a, c⟩)).heap.size = w.heap.size + 1 := by simp
  rw [hsz] at hr2
  obtain ⟨d0, d1, d2, d3, d4, d5⟩ := (row_cells hr2).1
  have hsi := sameInts_any a c a' c' s.l ((w.alloc (eO ⟨i, s, a, c⟩)).alloc (eO ⟨i, s, a', c'⟩)) (by omega) (at_of ((hx.keep hb1).keep hb2)) (at_of ((hy.keep hb1).keep hb2))
  have HB := Hid_of (bel_up hb1 hb2 (Nat.le_refl _))
  clear hx hy hb1 hb2 hr2 hsz
  go_enter Try.func14, Try.ntmps14
  go_wp2_with fail
  refine hsi.mono ?_
  rintro e w3 ⟨rfl, hb3⟩
  have HB3 := Hid_of (bel_up HB.out hb3 (Nat.le_refl _))
  clear hsi hb3 HB
  go_wp2
  go_ret
  exact ⟨rfl, HB3.out⟩
theorem ints_same {w : World} {a1 a2 : Option Addr} {c1 c2 : Nat} {l : List Int} (hl : l.length ≤ 1000000) (h1 : AtL il w a1 l) (h2 : AtL il w a2 l) : Calls Try.prog 15 #[.slice a1 l.length c1, .slice a2 l.length c2] w fun e w' => e = .returned (.bool true) ∧ Below w.heap.size w w' :=
  sameInts_any a1 c1 a2 c2 l w (by omega) (at_of h1) (at_of h2)

end Go.Proofs.Ytgcfpihfoekllaa
