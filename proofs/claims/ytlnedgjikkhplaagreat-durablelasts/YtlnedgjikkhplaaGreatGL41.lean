/-
  The document's acceptor: a vote.
  The program's acceptor beside the document's.
-/
import Derived.Test.YtlnedgjikkhplaaGreatGL40
section
namespace Go.Proofs.YtlnedgjikkhplaaGreat.Na
open Go.RowKit
set_option linter.unusedVariables false
open M (E V)

theorem f25_res : Tryz.f25.results = #[.cell 4 39, .tmp 5] := rfl
set_option maxRecDepth 100000 in
set_option maxHeartbeats 2000000 in
theorem raccept_no (a : M.S) (ad : Option Addr) (c : Nat) (v : V) (w : World) (hno : M.acb a v = false) : Calls Tryz.prog 25 #[aV a ad c, vV v] w fun e w' => e = .returned (.tuple #[aV a ad c, .bool false]) ∧ Below w.heap.size w w' := by
  obtain ⟨W1, HW1⟩ : ∃ W1, Hid (((w.alloc (.cells #[.int .i64 a.p.i, .int .i64 a.p.t, .int .i64 a.base, .slice ad a.l.length c] 39)).alloc (.cells #[.int .i64 v.s, .int .i64 v.b.i, .int .i64 v.b.t, .string v.v] 48)).alloc (.cells #[.int .i64 0, .int .i64 0, .int .i64 0, .slice none 0 0] 39) = W1) := ⟨_, rfl⟩
  have hb2 := bel2 w (.cells #[.int .i64 a.p.i, .int .i64 a.p.t, .int .i64 a.base, .slice ad a.l.length c] 39) (.cells #[.int .i64 v.s, .int .i64 v.b.i, .int .i64 v.b.t, .string v.v] 48)
  have hs2 : ((w.alloc (.cells #[.int .i64 a.p.i, .int .i64 a.p.t, .int .i64 a.base, .slice ad a.l.length c] 39)).alloc (.cells #[.int .i64 v.s, .int .i64 v.b.i, .int .i64 v.b.t, .string v.v] 48)).heap.size = w.heap.size + 2 := by simp
  have hb3 := bel1 ((w.alloc (.cells #[.int .i64 a.p.i, .int .i64 a.p.t, .int .i64 a.base, .slice ad a.l.length c] 39)).alloc (.cells #[.int .i64 v.s, .int .i64 v.b.i, .int .i64 v.b.t, .string v.v] 48)) (.cells #[.int .i64 0, .int .i64 0, .int .i64 0, .slice none 0 0] 39)
  have hr3 := heap_alloc_last ((w.alloc (.cells #[.int .i64 a.p.i, .int .i64 a.p.t, .int .i64 a.base, .slice ad a.l.length c] 39)).alloc (.cells #[.int .i64 v.s, .int .i64 v.b.i, .int .i64 v.b.t, .string v.v] 48)) (.cells #[.int .i64 0, .int .i64 0, .int .i64 0, .slice none 0 0] 39)
  have hr1 := bel_row (heap_alloc2_old w (.cells #[.int .i64 a.p.i, .int .i64 a.p.t, .int .i64 a.base, .slice ad a.l.length c] 39) (.cells #[.int .i64 v.s, .int .i64 v.b.i, .int .i64 v.b.t, .string v.v] 48)) hb3
  have hr2 := bel_row (heap_alloc2_new w (.cells #[.int .i64 a.p.i, .int .i64 a.p.t, .int .i64 a.base, .slice ad a.l.length c] 39) (.cells #[.int .i64 v.s, .int .i64 v.b.i, .int .i64 v.b.t, .string v.v] 48)) hb3
  have hb1 := bel_up hb2 hb3 (Nat.le_refl _)
  rw [hs2] at hr3
  rw [HW1.out] at hr1 hr2 hr3 hb1
  have hs1 : W1.heap.size = w.heap.size + 3 := by rw [← HW1.out]; simp
  have HB1 := Hid_of hb1
  have HR1 := Hid_of hr1
  have HR2 := Hid_of hr2
  have HR3 := Hid_of hr3
  obtain ⟨⟨z0, z1, z2, z3⟩, _⟩ := row4 hr1
  obtain ⟨⟨u0, u1, u2, u3⟩, _⟩ := row4 hr2
  have hm := rmay_any a ad c v.b W1
  have HA : Hid ((M.may a v.b && decide (a.base ≤ v.s) && decide (v.s < 1024) && decide (v.v.size ≤ 4096)) = false) := hno
  clear hb2 hs2 hb3 hr1 hr2 hr3 hb1 hno
  cases hmx : M.may a v.b with
  | false =>
    rw [hmx] at hm
    clear hmx HA
    go_enter Tryz.func25, Tryz.ntmps25
    go_upto_region 1 with fail
    rw [HW1.out]
    go_wp2_with fail
    refine hm.mono ?_
    rintro e w2 ⟨rfl, hb2⟩
    have hR1 := bel_row HR1.out hb2
    have hR3 := bel_row HR3.out hb2
    obtain ⟨⟨x0, x1, x2, x3⟩, _⟩ := row4 hR1
    obtain ⟨⟨y0, y1, y2, y3⟩, _⟩ := row4 (bel_row HR2.out hb2)
    obtain ⟨⟨q0, q1, q2, q3⟩, qf⟩ := row4 hR3
    have qf0 := qf 0
    have qf1 := qf 1
    have qf2 := qf 2
    have qf3 := qf 3
    have HROW := Hid_of (put4_row hR3 (.int .i64 a.p.i) (.int .i64 a.p.t) (.int .i64 a.base) (.slice ad a.l.length c))
    have HF := Hid_of (put4_bel (g := w.heap.size + 2) (bel_up HB1.out hb2 (Nat.le_refl _)) (by omega) (.int .i64 a.p.i) (.int .i64 a.p.t) (.int .i64 a.base) (.slice ad a.l.length c))
    clear hb2 hm hR1 hR3 qf z0 z1 z2 z3 u0 u1 u2 u3
    go_wp2
    refine bodyPost_ret (v := .tuple #[aV a ad c, .bool false]) ?_ rfl ⟨rfl, HF.out⟩
    exact res31 f25_res _ _ (w.heap.size + 2) _ _ _ _ rfl HROW.out
  | true =>
    rw [hmx] at hm
    by_cases h0 : a.base ≤ v.s
    · have d0 : decide (v.s < a.base) = false := decide_eq_false (by omega)
      by_cases h1 : v.s < 1024
      · have d1 : decide (1024 ≤ v.s) = false := decide_eq_false (by omega)
        have hsz : 4096 < v.v.size := by
          have := HA.out
          rw [hmx, decide_eq_true h0, decide_eq_true h1] at this
          simpa using this
        have d2 : decide ((4096 : Int) < (v.v.size : Int)) = true := decide_eq_true (by omega)
        clear hmx HA h0 h1 hsz
        go_enter Tryz.func25, Tryz.ntmps25
        go_upto_region 1 with fail
        rw [HW1.out]
        go_wp2_with fail
        refine hm.mono ?_
        rintro e w2 ⟨rfl, hb2⟩
        have hR1 := bel_row HR1.out hb2
        have hR3 := bel_row HR3.out hb2
        obtain ⟨⟨x0, x1, x2, x3⟩, _⟩ := row4 hR1
        obtain ⟨⟨y0, y1, y2, y3⟩, _⟩ := row4 (bel_row HR2.out hb2)
        obtain ⟨⟨q0, q1, q2, q3⟩, qf⟩ := row4 hR3
        have qf0 := qf 0
        have qf1 := qf 1
        have qf2 := qf 2
        have qf3 := qf 3
        have HROW := Hid_of (put4_row hR3 (.int .i64 a.p.i) (.int .i64 a.p.t) (.int .i64 a.base) (.slice ad a.l.length c))
        have HF := Hid_of (put4_bel (g := w.heap.size + 2) (bel_up HB1.out hb2 (Nat.le_refl _)) (by omega) (.int .i64 a.p.i) (.int .i64 a.p.t) (.int .i64 a.base) (.slice ad a.l.length c))
        clear hb2 hm hR1 hR3 qf z0 z1 z2 z3 u0 u1 u2 u3
        go_wp2
        refine bodyPost_ret (v := .tuple #[aV a ad c, .bool false]) ?_ rfl ⟨rfl, HF.out⟩
        exact res31 f25_res _ _ (w.heap.size + 2) _ _ _ _ rfl HROW.out
      · have d1 : decide (1024 ≤ v.s) = true := decide_eq_true (by omega)
        clear hmx HA h0 h1
        go_enter Tryz.func25, Tryz.ntmps25
        go_upto_region 1 with fail
        rw [HW1.out]
        go_wp2_with fail
        refine hm.mono ?_
        rintro e w2 ⟨rfl, hb2⟩
        have hR1 := bel_row HR1.out hb2
        have hR3 := bel_row HR3.out hb2
        obtain ⟨⟨x0, x1, x2, x3⟩, _⟩ := row4 hR1
        obtain ⟨⟨y0, y1, y2, y3⟩, _⟩ := row4 (bel_row HR2.out hb2)
        obtain ⟨⟨q0, q1, q2, q3⟩, qf⟩ := row4 hR3
        have qf0 := qf 0
        have qf1 := qf 1
        have qf2 := qf 2
        have qf3 := qf 3
        have HROW := Hid_of (put4_row hR3 (.int .i64 a.p.i) (.int .i64 a.p.t) (.int .i64 a.base) (.slice ad a.l.length c))
        have HF := Hid_of (put4_bel (g := w.heap.size + 2) (bel_up HB1.out hb2 (Nat.le_refl _)) (by omega) (.int .i64 a.p.i) (.int .i64 a.p.t) (.int .i64 a.base) (.slice ad a.l.length c))
        clear hb2 hm hR1 hR3 qf z0 z1 z2 z3 u0 u1 u2 u3
        go_wp2
        refine bodyPost_ret (v := .tuple #[aV a ad c, .bool false]) ?_ rfl ⟨rfl, HF.out⟩
        exact res31 f25_res _ _ (w.heap.size + 2) _ _ _ _ rfl HROW.out
    · have d0 : decide (v.s < a.base) = true := decide_eq_true (by omega)
      clear hmx HA h0
      go_enter Tryz.func25, Tryz.ntmps25
      go_upto_region 1 with fail
      rw [HW1.out]
      go_wp2_with fail
      refine hm.mono ?_
      rintro e w2 ⟨rfl, hb2⟩
      have hR1 := bel_row HR1.out hb2
      have hR3 := bel_row HR3.out hb2
      obtain ⟨⟨x0, x1, x2, x3⟩, _⟩ := row4 hR1
      obtain ⟨⟨y0, y1, y2, y3⟩, _⟩ := row4 (bel_row HR2.out hb2)
      obtain ⟨⟨q0, q1, q2, q3⟩, qf⟩ := row4 hR3
      have qf0 := qf 0
      have qf1 := qf 1
      have qf2 := qf 2
      have qf3 := qf 3
      have HROW := Hid_of (put4_row hR3 (.int .i64 a.p.i) (.int .i64 a.p.t) (.int .i64 a.base) (.slice ad a.l.length c))
      have HF := Hid_of (put4_bel (g := w.heap.size + 2) (bel_up HB1.out hb2 (Nat.le_refl _)) (by omega) (.int .i64 a.p.i) (.int .i64 a.p.t) (.int .i64 a.base) (.slice ad a.l.length c))
      clear hb2 hm hR1 hR3 qf z0 z1 z2 z3 u0 u1 u2 u3
      go_wp2
      refine bodyPost_ret (v := .tuple #[aV a ad c, .bool false]) ?_ rfl ⟨rfl, HF.out⟩
      exact res31 f25_res _ _ (w.heap.size + 2) _ _ _ _ rfl HROW.out
set_option maxRecDepth 100000 in
set_option maxHeartbeats 4000000 in
theorem raccept_yes (a : M.S) (ad : Option Addr) (c : Nat) (v : V) (w : World) (hx : XL vl w ad c a.l) (hl : a.l.length ≤ 1024) (hu : M.Up a.l) (hyes : M.acb a v = true) : Calls Tryz.prog 25 #[aV a ad c, vV v] w fun e w' => ∃ u, e = .returned (.tuple #[u, .bool true]) ∧ DS w (M.acs a v) u w' := by
  obtain ⟨hmx, h0, h1, hsz⟩ := M.acb_yes hyes
  obtain ⟨W1, HW1⟩ : ∃ W1, Hid (((w.alloc (.cells #[.int .i64 a.p.i, .int .i64 a.p.t, .int .i64 a.base, .slice ad a.l.length c] 39)).alloc (.cells #[.int .i64 v.s, .int .i64 v.b.i, .int .i64 v.b.t, .string v.v] 48)).alloc (.cells #[.int .i64 0, .int .i64 0, .int .i64 0, .slice none 0 0] 39) = W1) := ⟨_, rfl⟩
  have hb2 := bel2 w (.cells #[.int .i64 a.p.i, .int .i64 a.p.t, .int .i64 a.base, .slice ad a.l.length c] 39) (.cells #[.int .i64 v.s, .int .i64 v.b.i, .int .i64 v.b.t, .string v.v] 48)
  have hs2 : ((w.alloc (.cells #[.int .i64 a.p.i, .int .i64 a.p.t, .int .i64 a.base, .slice ad a.l.length c] 39)).alloc (.cells #[.int .i64 v.s, .int .i64 v.b.i, .int .i64 v.b.t, .string v.v] 48)).heap.size = w.heap.size + 2 := by simp
  have hb3 := bel1 ((w.alloc (.cells #[.int .i64 a.p.i, .int .i64 a.p.t, .int .i64 a.base, .slice ad a.l.length c] 39)).alloc (.cells #[.int .i64 v.s, .int .i64 v.b.i, .int .i64 v.b.t, .string v.v] 48)) (.cells #[.int .i64 0, .int .i64 0, .int .i64 0, .slice none 0 0] 39)
  have hr3 := heap_alloc_last ((w.alloc (.cells #[.int .i64 a.p.i, .int .i64 a.p.t, .int .i64 a.base, .slice ad a.l.length c] 39)).alloc (.cells #[.int .i64 v.s, .int .i64 v.b.i, .int .i64 v.b.t, .string v.v] 48)) (.cells #[.int .i64 0, .int .i64 0, .int .i64 0, .slice none 0 0] 39)
  have hr1 := bel_row (heap_alloc2_old w (.cells #[.int .i64 a.p.i, .int .i64 a.p.t, .int .i64 a.base, .slice ad a.l.length c] 39) (.cells #[.int .i64 v.s, .int .i64 v.b.i, .int .i64 v.b.t, .string v.v] 48)) hb3
  have hr2 := bel_row (heap_alloc2_new w (.cells #[.int .i64 a.p.i, .int .i64 a.p.t, .int .i64 a.base, .slice ad a.l.length c] 39) (.cells #[.int .i64 v.s, .int .i64 v.b.i, .int .i64 v.b.t, .string v.v] 48)) hb3
  have hb1 := bel_up hb2 hb3 (Nat.le_refl _)
  rw [hs2] at hr3
  rw [HW1.out] at hr1 hr2 hr3 hb1
  have hs1 : W1.heap.size = w.heap.size + 3 := by rw [← HW1.out]; simp
  have HB1 := Hid_of hb1
  have HR1 := Hid_of hr1
  have HR2 := Hid_of hr2
  have HR3 := Hid_of hr3
  obtain ⟨⟨z0, z1, z2, z3⟩, _⟩ := row4 hr1
  obtain ⟨⟨u0, u1, u2, u3⟩, _⟩ := row4 hr2
  have hm := rmay_any a ad c v.b W1
  rw [hmx] at hm
  have d0 : decide (v.s < a.base) = false := decide_eq_false (by omega)
  have d1 : decide (1024 ≤ v.s) = false := decide_eq_false (by omega)
  have d2 : decide ((4096 : Int) < (v.v.size : Int)) = false := decide_eq_false (by omega)
  have HXw := Hid_of hx
  have HU := Hid_of hu
  have HY := Hid_of (M.acs_yes hyes)
  clear hb2 hs2 hb3 hr1 hr2 hr3 hb1 hyes hmx h0 h1 hsz hx hu
  go_enter Tryz.func25, Tryz.ntmps25
  go_upto_region 1 with fail
  rw [HW1.out]
  clear HW1
  go_wp2_with fail
  refine hm.mono ?_
  rintro e w2 ⟨rfl, hb2⟩
  have hR1 := bel_row HR1.out hb2
  have hR2 := bel_row HR2.out hb2
  have hR3 := bel_row HR3.out hb2
  obtain ⟨⟨x0, x1, x2, x3⟩, xf⟩ := row4 hR1
  obtain ⟨⟨y0, y1, y2, y3⟩, _⟩ := row4 hR2
  have xf0 := xf 0
  have xf1 := xf 1
  have hs2 := hb2.size
  have hbA : Below w.heap.size w (put2 w2 w.heap.size (.int .i64 v.b.i) (.int .i64 v.b.t)) := ((bel_up HB1.out hb2 (Nat.le_refl _)).setCell (p := ⟨w.heap.size, 0, none⟩) (Nat.le_refl _) _ |>.setCell (p := ⟨w.heap.size, 1, none⟩) (Nat.le_refl _) _)
  have hR1d : (put2 w2 w.heap.size (.int .i64 v.b.i) (.int .i64 v.b.t)).heap[w.heap.size]? = some (.cells #[.int .i64 v.b.i, .int .i64 v.b.t, .int .i64 a.base, .slice ad a.l.length c] 39 (0, 0)) := heap_setCell_same _ w.heap.size 1 _ _ _ (heap_setCell_same w2 w.heap.size 0 _ _ _ hR1)
  have hR2d : (put2 w2 w.heap.size (.int .i64 v.b.i) (.int .i64 v.b.t)).heap[w.heap.size + 1]? = some (.cells #[.int .i64 v.s, .int .i64 v.b.i, .int .i64 v.b.t, .string v.v] 48 (0, 0)) := ((heap_setCell_other _ ⟨w.heap.size, 1, none⟩ _ _ (by simp)).trans (heap_setCell_other _ ⟨w.heap.size, 0, none⟩ _ _ (by simp))).trans hR2
  have hR3d : (put2 w2 w.heap.size (.int .i64 v.b.i) (.int .i64 v.b.t)).heap[w.heap.size + 2]? = some (.cells #[.int .i64 0, .int .i64 0, .int .i64 0, .slice none 0 0] 39 (0, 0)) := ((heap_setCell_other _ ⟨w.heap.size, 1, none⟩ _ _ (by simp)).trans (heap_setCell_other _ ⟨w.heap.size, 0, none⟩ _ _ (by simp))).trans hR3
  have hXd : AtL vl (put2 w2 w.heap.size (.int .i64 v.b.i) (.int .i64 v.b.t)) ad a.l := (HXw.out.at').keep hbA
  have hsd : w.heap.size + 3 ≤ (put2 w2 w.heap.size (.int .i64 v.b.i) (.int .i64 v.b.t)).heap.size := by simp [put2]; omega
  obtain ⟨W3, HW3⟩ : ∃ W3, Hid (put2 w2 w.heap.size (.int .i64 v.b.i) (.int .i64 v.b.t) = W3) := ⟨_, rfl⟩
  have HW3' : Hid ((w2.setCell ⟨w.heap.size, 0, none⟩ (.int .i64 v.b.i)).setCell ⟨w.heap.size, 1, none⟩ (.int .i64 v.b.t) = W3) := HW3.out
  rw [HW3.out] at hbA hR1d hR2d hR3d hXd hsd
  have HBA := Hid_of hbA
  have HR1d := Hid_of hR1d
  have HR2d := Hid_of hR2d
  have HR3d := Hid_of hR3d
  have HXd := Hid_of hXd
  have HSD := Hid_of hsd
  clear hb2 hm hR1 hR2 hR3 xf hs2 hbA hR1d hR2d hR3d hXd hsd HW3 HB1 HR1 HR2 HR3 z0 z1 z2 z3 u0 u1 u2 u3
  go_wp2_with fail
  rw [HW3'.out]
  clear HW3' x0 x1 x2 x3 y0 y1 y2 y3 xf0 xf1 d0 d1 d2
  go_loopw [8, 6, 7] (fun i u pv wr => ∃ (k : Nat) (P : Bool) (O : List V), k ≤ a.l.length ∧ i = .int .i64 k ∧ pv = .bool P ∧ OwnL vl 48 wr W3.heap.size u O ∧ Below W3.heap.size W3 wr ∧ Hid (O ++ M.ra v P (a.l.drop k) = M.put a.l v) ∧ O.length ≤ k + 1 ∧ (P = false → O.length ≤ k)) (fun i u pv _ => a.l.length - (intOf i).toNat)
  case atStart => exact ⟨0, false, [], Nat.zero_le _, rfl, rfl, OwnL.nil _ _ _, Below.refl _ _, by rw [List.nil_append, List.drop_zero, M.ra_put v _ HU.out]; exact Hid_of rfl, by simp, fun _ => by simp⟩
  case round =>
    obtain ⟨k, P, O, hk, rfl, rfl, ho, hbl, HRA, hol, hop⟩ := hrel
    obtain ⟨a1, cap1, rfl, hx1, _⟩ := ho.at
    obtain ⟨⟨z0, z1, z2, z3⟩, _⟩ := row4 (bel_row HR1d.out hbl)
    obtain ⟨⟨y0, y1, y2, y3⟩, _⟩ := row4 (bel_row HR2d.out hbl)
    by_cases hlt : k < a.l.length
    · obtain ⟨g0, off0, rfl, q0, q1, q2, q3⟩ := (HXd.out.keep hbl).getV k hlt
      have HST := Hid_of (M.ra_drop v P a.l k hlt)
      have hki : (k : Int) < (a.l.length : Int) := by omega
      obtain ⟨x, HEX⟩ : ∃ x, Hid (a.l[k] = x) := ⟨_, Hid_of rfl⟩
      rw [HEX.out] at q0 q1 q2 q3 HST
      have HBL := Hid_of hbl
      have HOL := Hid_of ho
      clear hbl ho hx1
      cases P with
      | true =>
        by_cases hne : x.s = v.s
        · have dne : (x.s == v.s) = true := by simpa using hne
          have HRN : Hid (O ++ M.ra v true (a.l.drop (k + 1)) = M.put a.l v) := Hid_of (by
            have h := HRA.out
            rw [HST.out, if_neg (by simp), if_neg (fun h => h hne)] at h
            simpa using h)
          clear HRA HST
          go_wp2_with fail
          go_quiet (fail)
          go_wp2_with fail
          obtain ⟨Wb, HWb⟩ : ∃ Wb, Hid (wr.drewN nq = Wb) := ⟨_, Hid_of rfl⟩
          have hbb : Below W3.heap.size W3 Wb := by rw [← HWb.out]; exact below_drewN HBL.out nq
          have hob : OwnL vl 48 Wb W3.heap.size (.slice a1 O.length cap1) O := by rw [← HWb.out]; exact HOL.out.keep (below_drewN (Below.refl wr.heap.size wr) nq)
          rw [HWb.out]
          clear HWb HBL HOL z0 z1 z2 z3 y0 y1 y2 y3 q0 q1 q2 q3
          obtain ⟨⟨z0, z1, z2, z3⟩, _⟩ := row4 (bel_row HR1d.out hbb)
          obtain ⟨⟨y0, y1, y2, y3⟩, _⟩ := row4 (bel_row HR2d.out hbb)
          obtain ⟨g9, off9, eA, q0, q1, q2, q3⟩ := (HXd.out.keep hbb).getV k hlt
          cases eA
          rw [HEX.out] at q0 q1 q2 q3
          have HBB := Hid_of hbb
          have HOB := Hid_of hob
          clear hbb hob
          go_quiet (fail)
          have HB6 : Hid (Below W3.heap.size W3 (Wb.drewN nq)) := below_drewN HBB.out nq
          have HO6 := Hid_of (HOB.out.keep (below_drewN (Below.refl Wb.heap.size Wb) nq))
          clear HOB HBB
          go_wp2
          go_roundw
          case rel => exact ⟨k + 1, true, _, by omega, by go_num, rfl, HO6.out, HB6.out, HRN, (by first | omega | (simp only [List.length_append, List.length_cons, List.length_nil]; omega)), (fun h => by cases h)⟩
          case measure => simp [intOf]; omega
        · have dne : (x.s == v.s) = false := by simpa using hne
          have HRN : Hid ((O ++ [x]) ++ M.ra v true (a.l.drop (k + 1)) = M.put a.l v) := Hid_of (by
            have h := HRA.out
            rw [HST.out, if_neg (by simp), if_pos hne] at h
            simpa using h)
          clear HRA HST
          go_wp2_with fail
          go_quiet (fail)
          go_wp2_with fail
          obtain ⟨Wb, HWb⟩ : ∃ Wb, Hid (wr.drewN nq = Wb) := ⟨_, Hid_of rfl⟩
          have hbb : Below W3.heap.size W3 Wb := by rw [← HWb.out]; exact below_drewN HBL.out nq
          have hob : OwnL vl 48 Wb W3.heap.size (.slice a1 O.length cap1) O := by rw [← HWb.out]; exact HOL.out.keep (below_drewN (Below.refl wr.heap.size wr) nq)
          rw [HWb.out]
          clear HWb HBL HOL z0 z1 z2 z3 y0 y1 y2 y3 q0 q1 q2 q3
          obtain ⟨⟨z0, z1, z2, z3⟩, _⟩ := row4 (bel_row HR1d.out hbb)
          obtain ⟨⟨y0, y1, y2, y3⟩, _⟩ := row4 (bel_row HR2d.out hbb)
          obtain ⟨g9, off9, eA, q0, q1, q2, q3⟩ := (HXd.out.keep hbb).getV k hlt
          cases eA
          rw [HEX.out] at q0 q1 q2 q3
          have HBB := Hid_of hbb
          have HOB := Hid_of hob
          clear hbb hob
          go_quiet (fail)
          obtain ⟨a', c', w6, hrun, ho6, hr6⟩ := app1 x (w := Wb.drewN nq) (HOB.out.keep (below_drewN (Below.refl _ _) nq)) (by have := HBB.out.size; exact this) (by omega)
          have HB6 : Hid (Below W3.heap.size W3 w6) := HBB.out.trans ((below_drewN (Below.refl _ _) nq).trans ((hr6.below (B := W3.heap.size) (fun j hj => (HOB.out.lt hj).1) HBB.out.size)))
          have HO6 := Hid_of ho6
          clear ho6 hr6 HOB HBB
          go_wp2_with (at_builtin; refine wpList_append_known rfl _ _ 37 rfl _ _ rfl rfl _ _ (hrun _) ?_)
          go_roundw
          case rel => exact ⟨k + 1, true, _, by omega, by go_num, rfl, HO6.out, HB6.out, HRN, (by first | omega | (simp only [List.length_append, List.length_cons, List.length_nil]; omega)), (fun h => by cases h)⟩
          case measure => simp [intOf]; omega
      | false =>
        have hol2 := hop rfl
        by_cases hle : v.s ≤ x.s
        · have dle : decide (v.s ≤ x.s) = true := decide_eq_true hle
          by_cases hne : x.s = v.s
          · have dne : (x.s == v.s) = true := by simpa using hne
            have HRN : Hid ((O ++ [v]) ++ M.ra v true (a.l.drop (k + 1)) = M.put a.l v) := Hid_of (by
              have h := HRA.out
              rw [HST.out, if_pos ⟨rfl, hle⟩, if_neg (fun h => h hne), dle] at h
              simpa using h)
            clear HRA HST
            go_wp2_with fail
            go_quiet (fail)
            obtain ⟨a', c', Wb, hrun, hob, hr4⟩ := app1 v (w := wr.drewN nq) (HOL.out.keep (below_drewN (Below.refl _ _) nq)) (by have := HBL.out.size; exact this) (by omega)
            have hbb : Below W3.heap.size W3 Wb := HBL.out.trans ((below_drewN (Below.refl _ _) nq).trans ((hr4.below (B := W3.heap.size) (fun j hj => (HOL.out.lt hj).1) HBL.out.size)))
            clear hr4 HOL HBL
            go_wp2_with (at_builtin; refine wpList_append_known rfl _ _ 37 rfl _ _ rfl rfl _ _ (hrun _) ?_)
            clear hrun z0 z1 z2 z3 y0 y1 y2 y3 q0 q1 q2 q3
            obtain ⟨⟨z0, z1, z2, z3⟩, _⟩ := row4 (bel_row HR1d.out hbb)
            obtain ⟨⟨y0, y1, y2, y3⟩, _⟩ := row4 (bel_row HR2d.out hbb)
            obtain ⟨g9, off9, eA, q0, q1, q2, q3⟩ := (HXd.out.keep hbb).getV k hlt
            cases eA
            rw [HEX.out] at q0 q1 q2 q3
            have HBB := Hid_of hbb
            have HOB := Hid_of hob
            clear hbb hob
            go_quiet (fail)
            have HB6 : Hid (Below W3.heap.size W3 (Wb.drewN nq)) := below_drewN HBB.out nq
            have HO6 := Hid_of (HOB.out.keep (below_drewN (Below.refl Wb.heap.size Wb) nq))
            clear HOB HBB
            go_wp2
            go_roundw
            case rel => exact ⟨k + 1, true, _, by omega, by go_num, rfl, HO6.out, HB6.out, HRN, (by first | omega | (simp only [List.length_append, List.length_cons, List.length_nil]; omega)), (fun h => by cases h)⟩
            case measure => simp [intOf]; omega
          · have dne : (x.s == v.s) = false := by simpa using hne
            have HRN : Hid (((O ++ [v]) ++ [x]) ++ M.ra v true (a.l.drop (k + 1)) = M.put a.l v) := Hid_of (by
              have h := HRA.out
              rw [HST.out, if_pos ⟨rfl, hle⟩, if_pos hne, dle] at h
              simpa using h)
            clear HRA HST
            go_wp2_with fail
            go_quiet (fail)
            obtain ⟨a', c', Wb, hrun, hob, hr4⟩ := app1 v (w := wr.drewN nq) (HOL.out.keep (below_drewN (Below.refl _ _) nq)) (by have := HBL.out.size; exact this) (by omega)
            have hbb : Below W3.heap.size W3 Wb := HBL.out.trans ((below_drewN (Below.refl _ _) nq).trans ((hr4.below (B := W3.heap.size) (fun j hj => (HOL.out.lt hj).1) HBL.out.size)))
            clear hr4 HOL HBL
            go_wp2_with (at_builtin; refine wpList_append_known rfl _ _ 37 rfl _ _ rfl rfl _ _ (hrun _) ?_)
            clear hrun z0 z1 z2 z3 y0 y1 y2 y3 q0 q1 q2 q3
            obtain ⟨⟨z0, z1, z2, z3⟩, _⟩ := row4 (bel_row HR1d.out hbb)
            obtain ⟨⟨y0, y1, y2, y3⟩, _⟩ := row4 (bel_row HR2d.out hbb)
            obtain ⟨g9, off9, eA, q0, q1, q2, q3⟩ := (HXd.out.keep hbb).getV k hlt
            cases eA
            rw [HEX.out] at q0 q1 q2 q3
            have HBB := Hid_of hbb
            have HOB := Hid_of hob
            clear hbb hob
            go_quiet (fail)
            obtain ⟨a', c', w6, hrun, ho6, hr6⟩ := app1 x (l := O ++ [v]) (w := Wb.drewN nq) (HOB.out.keep (below_drewN (Below.refl _ _) nq)) (by have := HBB.out.size; exact this) (by simp only [List.length_append, List.length_cons, List.length_nil]; omega)
            simp only [List.length_append, List.length_cons, List.length_nil, Nat.zero_add] at hrun ho6 hr6
            have HB6 : Hid (Below W3.heap.size W3 w6) := HBB.out.trans ((below_drewN (Below.refl _ _) nq).trans ((hr6.below (B := W3.heap.size) (fun j hj => (HOB.out.lt hj).1) HBB.out.size)))
            have HO6 := Hid_of ho6
            clear ho6 hr6 HOB HBB
            go_wp2_with (at_builtin; refine wpList_append_known rfl _ _ 37 rfl _ _ rfl rfl _ _ (hrun _) ?_)
            go_roundw
            case rel => exact ⟨k + 1, true, _, by omega, by go_num, rfl, HO6.out, HB6.out, HRN, (by first | omega | (simp only [List.length_append, List.length_cons, List.length_nil]; omega)), (fun h => by cases h)⟩
            case measure => simp [intOf]; omega
        · have dle : decide (v.s ≤ x.s) = false := decide_eq_false hle
          have hne : ¬ x.s = v.s := by omega
          have dne : (x.s == v.s) = false := by simpa using hne
          have HRN : Hid ((O ++ [x]) ++ M.ra v false (a.l.drop (k + 1)) = M.put a.l v) := Hid_of (by
            have h := HRA.out
            rw [HST.out, if_neg (fun h => hle h.2), if_pos hne, dle] at h
            simpa using h)
          clear HRA HST
          go_wp2_with fail
          go_quiet (fail)
          go_wp2_with fail
          obtain ⟨Wb, HWb⟩ : ∃ Wb, Hid (wr.drewN nq = Wb) := ⟨_, Hid_of rfl⟩
          have hbb : Below W3.heap.size W3 Wb := by rw [← HWb.out]; exact below_drewN HBL.out nq
          have hob : OwnL vl 48 Wb W3.heap.size (.slice a1 O.length cap1) O := by rw [← HWb.out]; exact HOL.out.keep (below_drewN (Below.refl wr.heap.size wr) nq)
          rw [HWb.out]
          clear HWb HBL HOL z0 z1 z2 z3 y0 y1 y2 y3 q0 q1 q2 q3
          obtain ⟨⟨z0, z1, z2, z3⟩, _⟩ := row4 (bel_row HR1d.out hbb)
          obtain ⟨⟨y0, y1, y2, y3⟩, _⟩ := row4 (bel_row HR2d.out hbb)
          obtain ⟨g9, off9, eA, q0, q1, q2, q3⟩ := (HXd.out.keep hbb).getV k hlt
          cases eA
          rw [HEX.out] at q0 q1 q2 q3
          have HBB := Hid_of hbb
          have HOB := Hid_of hob
          clear hbb hob
          go_quiet (fail)
          obtain ⟨a', c', w6, hrun, ho6, hr6⟩ := app1 x (w := Wb.drewN nq) (HOB.out.keep (below_drewN (Below.refl _ _) nq)) (by have := HBB.out.size; exact this) (by omega)
          have HB6 : Hid (Below W3.heap.size W3 w6) := HBB.out.trans ((below_drewN (Below.refl _ _) nq).trans ((hr6.below (B := W3.heap.size) (fun j hj => (HOB.out.lt hj).1) HBB.out.size)))
          have HO6 := Hid_of ho6
          clear ho6 hr6 HOB HBB
          go_wp2_with (at_builtin; refine wpList_append_known rfl _ _ 37 rfl _ _ rfl rfl _ _ (hrun _) ?_)
          go_roundw
          case rel => exact ⟨k + 1, false, _, by omega, by go_num, rfl, HO6.out, HB6.out, HRN, (by first | omega | (simp only [List.length_append, List.length_cons, List.length_nil]; omega)), (fun _ => (by first | omega | (simp only [List.length_append, List.length_cons, List.length_nil]; omega)))⟩
          case measure => simp [intOf]; omega
    · obtain rfl : k = a.l.length := by omega
      cases P with
      | true =>
        have HOE : Hid (OwnL vl 48 wr W3.heap.size (.slice a1 O.length cap1) (M.put a.l v)) := Hid_of (by
          have h := HRA.out
          rw [List.drop_of_length_le (Nat.le_refl _), M.ra, if_pos rfl, List.append_nil] at h
          rw [← h]
          exact ho)
        have HBE := Hid_of hbl
        clear ho hbl hx1 z0 z1 z2 z3 y0 y1 y2 y3
        have hse := HSD.out
        have hR1 := bel_row HR1d.out HBE.out
        have hR3 := bel_row HR3d.out HBE.out
        obtain ⟨⟨x0, x1, x2, x3⟩, xf⟩ := row4 hR1
        have xf3 := xf 3
        obtain ⟨⟨r0, r1, r2, r3⟩, rf⟩ := row4 hR3
        have rf0 := rf 0
        have rf1 := rf 1
        have rf2 := rf 2
        have rf3 := rf 3
        obtain ⟨ae, ce, hve, hxe, hbke⟩ := HOE.out.at
        have hrow : (put4 (wr.setCell ⟨w.heap.size, 3, none⟩ (.slice ae (M.put a.l v).length ce)) (w.heap.size + 2) (.int .i64 v.b.i) (.int .i64 v.b.t) (.int .i64 a.base) (.slice ae (M.put a.l v).length ce)).heap[w.heap.size + 2]? = some (.cells #[.int .i64 v.b.i, .int .i64 v.b.t, .int .i64 a.base, .slice ae (M.put a.l v).length ce] 39 (0, 0)) :=
          put4_row ((heap_setCell_other _ ⟨w.heap.size, 3, none⟩ _ _ (by simp)).trans hR3) _ _ _ _
        have HROW := Hid_of hrow
        have HDS : Hid (DS w (M.acs a v) (.agg #[.int .i64 v.b.i, .int .i64 v.b.t, .int .i64 a.base, .slice ae (M.put a.l v).length ce]) (put4 (wr.setCell ⟨w.heap.size, 3, none⟩ (.slice ae (M.put a.l v).length ce)) (w.heap.size + 2) (.int .i64 v.b.i) (.int .i64 v.b.t) (.int .i64 a.base) (.slice ae (M.put a.l v).length ce))) := by
          have hg0 : (fun k => k = w.heap.size ∨ k = w.heap.size + 2) w.heap.size := .inl rfl
          have hg1 : (fun k => k = w.heap.size ∨ k = w.heap.size + 2) (w.heap.size + 2) := .inr rfl
          have hF := fr_set (fr_set (fr_set (fr_set (fr_set (Fr.refl wr fun k => k = w.heap.size ∨ k = w.heap.size + 2) hg0 3 (.slice ae (M.put a.l v).length ce)) hg1 0 (.int .i64 v.b.i)) hg1 1 (.int .i64 v.b.t)) hg1 2 (.int .i64 a.base)) hg1 3 (.slice ae (M.put a.l v).length ce)
          obtain ⟨q1, q2, q3⟩ := ds_of (m := W3.heap.size) (bel_up HBA.out HBE.out (Nat.le_refl _)) hxe (fun j hj => ⟨(hbke j hj).1, (hbke j hj).2.2⟩) hF (fun k hk => by rcases hk with rfl | rfl <;> omega)
          rw [HY.out]
          exact ⟨ae, ce, rfl, q1, q2, q3⟩
        simp only [Value.slice.injEq] at hve
        obtain ⟨rfl, hn, rfl⟩ := hve
        rw [hn]
        clear hse hR1 hR3 xf rf hxe hbke hrow HOE HBE HRA
        generalize (M.put a.l v).length = np at *
        go_wp2
        refine bodyPost_ret (v := .tuple #[.agg #[.int .i64 v.b.i, .int .i64 v.b.t, .int .i64 a.base, .slice a1 np cap1], .bool true]) ?_ rfl ⟨_, rfl, HDS.out⟩
        exact res31 f25_res _ _ (w.heap.size + 2) _ _ _ _ rfl HROW.out
      | false =>
        obtain ⟨a', c', We, hrun, ho4, hr4⟩ := app1 v ho (by exact hbl.size) (by omega)
        have HOE : Hid (OwnL vl 48 We W3.heap.size (.slice a' (O.length + 1) c') (M.put a.l v)) := Hid_of (by
          have h := HRA.out
          rw [List.drop_of_length_le (Nat.le_refl _), M.ra, if_neg (by simp)] at h
          rw [← h]
          exact ho4)
        have HBE : Hid (Below W3.heap.size W3 We) := hbl.trans (hr4.below (fun j hj => (ho.lt hj).1) hbl.size)
        clear ho hbl hx1 ho4 hr4
        have hse := HSD.out
        have hR1 := bel_row HR1d.out HBE.out
        have hR3 := bel_row HR3d.out HBE.out
        obtain ⟨⟨x0, x1, x2, x3⟩, xf⟩ := row4 hR1
        have xf3 := xf 3
        obtain ⟨⟨r0, r1, r2, r3⟩, rf⟩ := row4 hR3
        have rf0 := rf 0
        have rf1 := rf 1
        have rf2 := rf 2
        have rf3 := rf 3
        obtain ⟨ae, ce, hve, hxe, hbke⟩ := HOE.out.at
        have hrow : (put4 (We.setCell ⟨w.heap.size, 3, none⟩ (.slice ae (M.put a.l v).length ce)) (w.heap.size + 2) (.int .i64 v.b.i) (.int .i64 v.b.t) (.int .i64 a.base) (.slice ae (M.put a.l v).length ce)).heap[w.heap.size + 2]? = some (.cells #[.int .i64 v.b.i, .int .i64 v.b.t, .int .i64 a.base, .slice ae (M.put a.l v).length ce] 39 (0, 0)) :=
          put4_row ((heap_setCell_other _ ⟨w.heap.size, 3, none⟩ _ _ (by simp)).trans hR3) _ _ _ _
        have HROW := Hid_of hrow
        have HDS : Hid (DS w (M.acs a v) (.agg #[.int .i64 v.b.i, .int .i64 v.b.t, .int .i64 a.base, .slice ae (M.put a.l v).length ce]) (put4 (We.setCell ⟨w.heap.size, 3, none⟩ (.slice ae (M.put a.l v).length ce)) (w.heap.size + 2) (.int .i64 v.b.i) (.int .i64 v.b.t) (.int .i64 a.base) (.slice ae (M.put a.l v).length ce))) := by
          have hg0 : (fun k => k = w.heap.size ∨ k = w.heap.size + 2) w.heap.size := .inl rfl
          have hg1 : (fun k => k = w.heap.size ∨ k = w.heap.size + 2) (w.heap.size + 2) := .inr rfl
          have hF := fr_set (fr_set (fr_set (fr_set (fr_set (Fr.refl We fun k => k = w.heap.size ∨ k = w.heap.size + 2) hg0 3 (.slice ae (M.put a.l v).length ce)) hg1 0 (.int .i64 v.b.i)) hg1 1 (.int .i64 v.b.t)) hg1 2 (.int .i64 a.base)) hg1 3 (.slice ae (M.put a.l v).length ce)
          obtain ⟨q1, q2, q3⟩ := ds_of (m := W3.heap.size) (bel_up HBA.out HBE.out (Nat.le_refl _)) hxe (fun j hj => ⟨(hbke j hj).1, (hbke j hj).2.2⟩) hF (fun k hk => by rcases hk with rfl | rfl <;> omega)
          rw [HY.out]
          exact ⟨ae, ce, rfl, q1, q2, q3⟩
        simp only [Value.slice.injEq] at hve
        obtain ⟨rfl, hn, rfl⟩ := hve
        rw [hn] at hrun
        clear hse hR1 hR3 xf rf hxe hbke hrow HOE HBE HRA
        generalize (M.put a.l v).length = np at *
        go_wp2_with (at_builtin; refine wpList_append_known rfl _ _ 37 rfl _ _ rfl rfl _ _ (hrun _) ?_)
        refine bodyPost_ret (v := .tuple #[.agg #[.int .i64 v.b.i, .int .i64 v.b.t, .int .i64 a.base, .slice a' np c'], .bool true]) ?_ rfl ⟨_, rfl, HDS.out⟩
        exact res31 f25_res _ _ (w.heap.size + 2) _ _ _ _ rfl HROW.out
end Go.Proofs.YtlnedgjikkhplaaGreat.Na
end
section
namespace Go.Proofs.YtlnedgjikkhplaaGreat.Na
open Go.RowKit
set_option linter.unusedVariables false
open M (E V)

/-- The program's acceptor (at b), and the document's (in block B) beside. -/
structure PS (w0 w : World) (F : Nat → Prop) (b : Nat) (a : M.S) (B : Nat) (d : M.S) (ad : Option Addr) (c : Nat) : Prop where
  pa : AS w0 w F b a
  xb : XB w (fun q => F q ∨ q = B) ad c d.l
  bx : BX w F B (.cells #[.int .i64 d.p.i, .int .i64 d.p.t, .int .i64 d.base, .slice ad d.l.length c] 39 (0, 0))
  lo : w0.heap.size ≤ B
  ln : d.l.length ≤ 1024
theorem fr_both {w w' : World} {F G : Nat → Prop} {B : Nat} (h : Fr w F w' G) : Fr w (fun q => F q ∨ q = B) w' (fun q => G q ∨ q = B) :=
  ⟨h.os, h.tape, h.output, h.size, fun k hk hn => h.block k hk (fun e => hn (.inl e)), fun k hk => by
    rcases hk with hk | hk
    · rcases h.n k hk with h' | h'
      · exact .inl (.inl h')
      · exact .inr h'
    · exact .inl (.inr hk)⟩
section
variable {w0 w w' : World} {F G : Nat → Prop} {b B c : Nat} {a a' d : M.S} {ad : Option Addr}
theorem PS.keep (h : PS w0 w F b a B d ad c) (hb : Below w.heap.size w w') : PS w0 w' F b a B d ad c := ⟨h.pa.keep hb, h.xb.up hb, h.bx.up hb, h.lo, h.ln⟩
theorem PS.prog (h : PS w0 w F b a B d ad c) (hF : Fr w F w' G) (hA : AS w0 w' G b a') : PS w0 w' G b a' B d ad c := ⟨hA, h.xb.step (fr_both hF), h.bx.step hF, h.lo, h.ln⟩
/-- A row that is new lies apart. -/
theorem PS.newx (h : PS w0 w F b a B d ad c) {a2 : Option Addr} {c2 : Nat} {l : List V} (hx : XL vl w' a2 c2 l) (hk : ∀ j, blk a2 j → w.heap.size ≤ j ∧ j < w'.heap.size) : XB w' (fun q => F q ∨ q = B) a2 c2 l :=
  ⟨hx, fun j hj => (hk j hj).2, fun j hj hq => by
    have h1 := (hk j hj).1
    have h2 := (Array.getElem?_eq_some_iff.1 h.bx.row).1
    rcases hq with hq | hq
    · have := (h.pa.mine j hq).2; omega
    · omega⟩
theorem fr_B (w : World) (B : Nat) (x y z u : Value) : Fr w (fun j => j = B) (put4 w B x y z u) (fun j => j = B) := by
  have hg : (fun j => j = B) B := rfl
  exact fr_set (F := fun j => j = B) (fr_set (F := fun j => j = B) (fr_set (F := fun j => j = B) (fr_set (F := fun j => j = B) (Fr.refl w fun j => j = B) hg 0 x) hg 1 y) hg 2 z) hg 3 u
/-- The document's acceptor is another one. -/
theorem PS.doc (h : PS w0 w F b a B d ad c) {d' : M.S} {a2 : Option Addr} {c2 : Nat} (hx : XB w (fun q => F q ∨ q = B) a2 c2 d'.l) (hl : d'.l.length ≤ 1024) :
    PS w0 (put4 w B (.int .i64 d'.p.i) (.int .i64 d'.p.t) (.int .i64 d'.base) (.slice a2 d'.l.length c2)) F b a B d' a2 c2 := by
  have hF := fr_B w B (.int .i64 d'.p.i) (.int .i64 d'.p.t) (.int .i64 d'.base) (.slice a2 d'.l.length c2)
  refine ⟨(h.pa.step hF (fun k hk e => h.bx.ap (by rw [← e]; exact hk)) (fun k e => by rw [e]; exact h.lo)).1, ?_, ⟨put4_row h.bx.row _ _ _ _, h.bx.ap⟩, h.lo, hl⟩
  exact ⟨hx.xl.keepBut fun k hk hb => hF.block k hk (fun e => hx.ap k hb (.inr e)), fun k hk => Nat.lt_of_lt_of_le (hx.lt k hk) hF.size, hx.ap⟩
theorem XB.at4 {w : World} {F : Nat → Prop} {B : Nat} {a2 : Option Addr} {c2 : Nat} {l : List V} (hx : XB w (fun q => F q ∨ q = B) a2 c2 l) (x y z u : Value) : XB (put4 w B x y z u) (fun q => F q ∨ q = B) a2 c2 l :=
  ⟨hx.xl.keepBut fun k hk hb => (fr_B w B x y z u).block k hk (fun e => hx.ap k hb (.inr e)), fun k hk => Nat.lt_of_lt_of_le (hx.lt k hk) (fr_B w B x y z u).size, hx.ap⟩
/-- The document's vote. -/
theorem PS.raccept (h : PS w0 w F b a B d ad c) (ok : M.Ok d) (v : V) : Calls Tryz.prog 25 #[aV d ad c, vV v] w fun e w' => ∃ a2 c2, e = .returned (.tuple #[aV (M.acs d v) a2 c2, .bool (M.acb d v)]) ∧ XB w' (fun q => F q ∨ q = B) a2 c2 (M.acs d v).l ∧ Below w.heap.size w w' := by
  cases hb : M.acb d v with
  | false =>
    refine (raccept_no d ad c v w hb).mono ?_
    rintro e w' ⟨rfl, hbl⟩
    rw [M.acs_no hb]
    exact ⟨ad, c, rfl, h.xb.up hbl, hbl⟩
  | true =>
    refine (raccept_yes d ad c v w h.xb.xl h.ln ok.up hb).mono ?_
    rintro e w' ⟨u, rfl, a2, c2, rfl, hx, hk, hbl⟩
    exact ⟨a2, c2, rfl, h.newx hx hk, hbl⟩
theorem PS.rtrim (h : PS w0 w F b a B d ad c) (u : Int) : Calls Tryz.prog 27 #[aV d ad c, .int .i64 u] w fun e w' => ∃ a2 c2, e = .returned (.tuple #[aV (M.trs d u) a2 c2, .int .i64 (M.trn d u : Nat)]) ∧ XB w' (fun q => F q ∨ q = B) a2 c2 (M.trs d u).l ∧ Below w.heap.size w w' := by
  refine (rtrim_any d ad c u w h.xb.xl h.ln).mono ?_
  rintro e w' ⟨v, rfl, a2, c2, rfl, hx, hk, hbl⟩
  exact ⟨a2, c2, rfl, h.newx hx hk, hbl⟩
theorem prs_l (d : M.S) (x : E) (k : Int) : (M.prs d x k).l = d.l := by
  unfold M.prs
  split <;> rfl
theorem PS.rpromise (h : PS w0 w F b a B d ad c) (x : E) (k : Int) : Calls Tryz.prog 23 #[aV d ad c, bV x, .int .i64 k] w fun e w' => ∃ a2 c2, e = .returned (.tuple #[aV (M.prs d x k) ad c, .slice a2 (M.prl d x k).length c2, .bool (M.prb d x k)]) ∧ XB w' (fun q => F q ∨ q = B) ad c (M.prs d x k).l ∧ XB w' (fun q => F q ∨ q = B) a2 c2 (M.prl d x k) ∧ Below w.heap.size w w' := by
  refine (rpromise_any d ad c x k w h.xb.xl h.ln).mono ?_
  rintro e w' ⟨a2, c2, rfl, hx, hk, hbl⟩
  exact ⟨a2, c2, rfl, by rw [prs_l]; exact h.xb.up hbl, h.newx hx hk, hbl⟩
end
end Go.Proofs.YtlnedgjikkhplaaGreat.Na
end
