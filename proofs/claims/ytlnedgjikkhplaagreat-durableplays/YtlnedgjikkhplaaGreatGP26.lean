import Derived.Test.YtlnedgjikkhplaaGreatGP25
set_option maxRecDepth 100000
set_option maxHeartbeats 8000000
set_option linter.unusedVariables false
set_option linter.unusedSimpArgs false
namespace Go.Proofs.YtlnedgjikkhplaaGreat.Na
open Go.RowKit
open M (E V)
theorem f25_res : Tryz.f25.results = #[.cell 4 39, .tmp 5] := rfl
theorem raccept_no (a : M.S) (ad : Option Addr) (c : Nat) (v : V) (w : World) (hno : M.acb a v = false) : Calls Tryz.prog 25 #[aV a ad c, vV v] w fun e w' => e = .returned (.tuple #[aV a ad c, .bool false]) ∧ Below w.heap.size w w' := by
 obtain ⟨W1, HW1⟩ := Nh (((w.alloc (.cells #[.int .i64 a.p.i, .int .i64 a.p.t, .int .i64 a.base, .slice ad a.l.length c] 39)).alloc (.cells #[.int .i64 v.s, .int .i64 v.b.i, .int .i64 v.b.t, .string v.v] 48)).alloc (.cells #[.int .i64 0, .int .i64 0, .int .i64 0, .slice none 0 0] 39))
 have hb2 := bel2 w (.cells #[.int .i64 a.p.i, .int .i64 a.p.t, .int .i64 a.base, .slice ad a.l.length c] 39) (.cells #[.int .i64 v.s, .int .i64 v.b.i, .int .i64 v.b.t, .string v.v] 48)
 have hs2 : ((w.alloc (.cells #[.int .i64 a.p.i, .int .i64 a.p.t, .int .i64 a.base, .slice ad a.l.length c] 39)).alloc (.cells #[.int .i64 v.s, .int .i64 v.b.i, .int .i64 v.b.t, .string v.v] 48)).heap.size = w.heap.size + 2 := by simp
 have hb3 := bel1 ((w.alloc (.cells #[.int .i64 a.p.i, .int .i64 a.p.t, .int .i64 a.base, .slice ad a.l.length c] 39)).alloc (.cells #[.int .i64 v.s, .int .i64 v.b.i, .int .i64 v.b.t, .string v.v] 48)) (.cells #[.int .i64 0, .int .i64 0, .int .i64 0, .slice none 0 0] 39)
 have hr3 := heap_alloc_last ((w.alloc (.cells #[.int .i64 a.p.i, .int .i64 a.p.t, .int .i64 a.base, .slice ad a.l.length c] 39)).alloc (.cells #[.int .i64 v.s, .int .i64 v.b.i, .int .i64 v.b.t, .string v.v] 48)) (.cells #[.int .i64 0, .int .i64 0, .int .i64 0, .slice none 0 0] 39)
 have hr1 := Br (heap_alloc2_old w (.cells #[.int .i64 a.p.i, .int .i64 a.p.t, .int .i64 a.base, .slice ad a.l.length c] 39) (.cells #[.int .i64 v.s, .int .i64 v.b.i, .int .i64 v.b.t, .string v.v] 48)) hb3
 have hr2 := Br (heap_alloc2_new w (.cells #[.int .i64 a.p.i, .int .i64 a.p.t, .int .i64 a.base, .slice ad a.l.length c] 39) (.cells #[.int .i64 v.s, .int .i64 v.b.i, .int .i64 v.b.t, .string v.v] 48)) hb3
 have hb1 := Bu hb2 hb3 Lr
 rw [hs2] at hr3; rw [HW1.out] at hr1 hr2 hr3 hb1
 have hs1 : W1.heap.size = w.heap.size + 3 := by rw [← HW1.out]; simp
 have HB1 := Hf hb1
 have HR1 := Hf hr1
 have HR2 := Hf hr2
 have HR3 := Hf hr3
 obtain ⟨⟨z0, z1, z2, z3⟩, _⟩ := row4 hr1
 obtain ⟨⟨u0, u1, u2, u3⟩, _⟩ := row4 hr2
 have hm := rmay_any a ad c v.b W1
 have HA : Hid ((M.may a v.b && decide (a.base ≤ v.s) && decide (v.s < 1024) && decide (v.v.size ≤ 4096)) = false) := hno
 clear hb2 hs2 hb3 hr1 hr2 hr3 hb1 hno
 cases hmx : M.may a v.b with
 | false =>
  rw [hmx] at hm; clear hmx HA
  go_enter Tryz.func25, Tryz.ntmps25
  go_upto_region 1 with fail
  rw [HW1.out]
  go_wp2_with fail
  refine hm.mono ?_; rintro e w2 ⟨rfl, hb2⟩
  have hR1 := Br HR1.out hb2
  have hR3 := Br HR3.out hb2
  obtain ⟨⟨x0, x1, x2, x3⟩, _⟩ := row4 hR1
  obtain ⟨⟨y0, y1, y2, y3⟩, _⟩ := row4 (Br HR2.out hb2)
  obtain ⟨⟨q0, q1, q2, q3⟩, qf⟩ := row4 hR3
  have qf0 := qf 0
  have qf1 := qf 1
  have qf2 := qf 2
  have qf3 := qf 3
  have HROW := Hf (put4_row hR3 (.int .i64 a.p.i) (.int .i64 a.p.t) (.int .i64 a.base) (.slice ad a.l.length c))
  have HF := Hf (put4_bel (g := w.heap.size + 2) (Bu HB1.out hb2 Lr) (by omega) (.int .i64 a.p.i) (.int .i64 a.p.t) (.int .i64 a.base) (.slice ad a.l.length c))
  clear hb2 hm hR1 hR3 qf z0 z1 z2 z3 u0 u1 u2 u3; go_wp2
  refine bodyPost_ret (v := .tuple #[aV a ad c, .bool false]) ?_ rfl ⟨rfl, HF.out⟩
  exact res31 f25_res _ _ (w.heap.size + 2) _ _ _ _ rfl HROW.out
 | true =>
  rw [hmx] at hm
  by_cases h0 : a.base ≤ v.s
  ·have d0 : decide (v.s < a.base) = false := decide_eq_false (by omega)
   by_cases h1 : v.s < 1024
   ·have d1 : decide (1024 ≤ v.s) = false := decide_eq_false (by omega)
    have hsz : 4096 < v.v.size := by
     have := HA.out
     rw [hmx, decide_eq_true h0, decide_eq_true h1] at this
     simpa using this
    have d2 : decide ((4096 : Int) < (v.v.size : Int)) = true := decide_eq_true (by omega)
    clear hmx HA h0 h1 hsz
    go_enter Tryz.func25, Tryz.ntmps25
    go_upto_region 1 with fail
    rw [HW1.out]
    go_wp2_with fail
    refine hm.mono ?_; rintro e w2 ⟨rfl, hb2⟩
    have hR1 := Br HR1.out hb2
    have hR3 := Br HR3.out hb2
    obtain ⟨⟨x0, x1, x2, x3⟩, _⟩ := row4 hR1
    obtain ⟨⟨y0, y1, y2, y3⟩, _⟩ := row4 (Br HR2.out hb2)
    obtain ⟨⟨q0, q1, q2, q3⟩, qf⟩ := row4 hR3
    have qf0 := qf 0
    have qf1 := qf 1
    have qf2 := qf 2
    have qf3 := qf 3
    have HROW := Hf (put4_row hR3 (.int .i64 a.p.i) (.int .i64 a.p.t) (.int .i64 a.base) (.slice ad a.l.length c))
    have HF := Hf (put4_bel (g := w.heap.size + 2) (Bu HB1.out hb2 Lr) (by omega) (.int .i64 a.p.i) (.int .i64 a.p.t) (.int .i64 a.base) (.slice ad a.l.length c))
    clear hb2 hm hR1 hR3 qf z0 z1 z2 z3 u0 u1 u2 u3; go_wp2
    refine bodyPost_ret (v := .tuple #[aV a ad c, .bool false]) ?_ rfl ⟨rfl, HF.out⟩
    exact res31 f25_res _ _ (w.heap.size + 2) _ _ _ _ rfl HROW.out
   ·have d1 : decide (1024 ≤ v.s) = true := decide_eq_true (by omega)
    clear hmx HA h0 h1
    go_enter Tryz.func25, Tryz.ntmps25
    go_upto_region 1 with fail
    rw [HW1.out]
    go_wp2_with fail
    refine hm.mono ?_; rintro e w2 ⟨rfl, hb2⟩
    have hR1 := Br HR1.out hb2
    have hR3 := Br HR3.out hb2
    obtain ⟨⟨x0, x1, x2, x3⟩, _⟩ := row4 hR1
    obtain ⟨⟨y0, y1, y2, y3⟩, _⟩ := row4 (Br HR2.out hb2)
    obtain ⟨⟨q0, q1, q2, q3⟩, qf⟩ := row4 hR3
    have qf0 := qf 0
    have qf1 := qf 1
    have qf2 := qf 2
    have qf3 := qf 3
    have HROW := Hf (put4_row hR3 (.int .i64 a.p.i) (.int .i64 a.p.t) (.int .i64 a.base) (.slice ad a.l.length c))
    have HF := Hf (put4_bel (g := w.heap.size + 2) (Bu HB1.out hb2 Lr) (by omega) (.int .i64 a.p.i) (.int .i64 a.p.t) (.int .i64 a.base) (.slice ad a.l.length c))
    clear hb2 hm hR1 hR3 qf z0 z1 z2 z3 u0 u1 u2 u3; go_wp2
    refine bodyPost_ret (v := .tuple #[aV a ad c, .bool false]) ?_ rfl ⟨rfl, HF.out⟩
    exact res31 f25_res _ _ (w.heap.size + 2) _ _ _ _ rfl HROW.out
  ·have d0 : decide (v.s < a.base) = true := decide_eq_true (by omega)
   clear hmx HA h0
   go_enter Tryz.func25, Tryz.ntmps25
   go_upto_region 1 with fail
   rw [HW1.out]
   go_wp2_with fail
   refine hm.mono ?_; rintro e w2 ⟨rfl, hb2⟩
   have hR1 := Br HR1.out hb2
   have hR3 := Br HR3.out hb2
   obtain ⟨⟨x0, x1, x2, x3⟩, _⟩ := row4 hR1
   obtain ⟨⟨y0, y1, y2, y3⟩, _⟩ := row4 (Br HR2.out hb2)
   obtain ⟨⟨q0, q1, q2, q3⟩, qf⟩ := row4 hR3
   have qf0 := qf 0
   have qf1 := qf 1
   have qf2 := qf 2
   have qf3 := qf 3
   have HROW := Hf (put4_row hR3 (.int .i64 a.p.i) (.int .i64 a.p.t) (.int .i64 a.base) (.slice ad a.l.length c))
   have HF := Hf (put4_bel (g := w.heap.size + 2) (Bu HB1.out hb2 Lr) (by omega) (.int .i64 a.p.i) (.int .i64 a.p.t) (.int .i64 a.base) (.slice ad a.l.length c))
   clear hb2 hm hR1 hR3 qf z0 z1 z2 z3 u0 u1 u2 u3; go_wp2
   refine bodyPost_ret (v := .tuple #[aV a ad c, .bool false]) ?_ rfl ⟨rfl, HF.out⟩
   exact res31 f25_res _ _ (w.heap.size + 2) _ _ _ _ rfl HROW.out
theorem raccept_yes (a : M.S) (ad : Option Addr) (c : Nat) (v : V) (w : World) (hx : XL vl w ad c a.l) (hl : a.l.length ≤ 1024) (hu : M.Up a.l) (hyes : M.acb a v = true) : Calls Tryz.prog 25 #[aV a ad c, vV v] w fun e w' => ∃ u, e = .returned (.tuple #[u, .bool true]) ∧ DS w (M.acs a v) u w' := by
 obtain ⟨hmx, h0, h1, hsz⟩ := M.acb_yes hyes
 obtain ⟨W1, HW1⟩ := Nh (((w.alloc (.cells #[.int .i64 a.p.i, .int .i64 a.p.t, .int .i64 a.base, .slice ad a.l.length c] 39)).alloc (.cells #[.int .i64 v.s, .int .i64 v.b.i, .int .i64 v.b.t, .string v.v] 48)).alloc (.cells #[.int .i64 0, .int .i64 0, .int .i64 0, .slice none 0 0] 39))
 have hb2 := bel2 w (.cells #[.int .i64 a.p.i, .int .i64 a.p.t, .int .i64 a.base, .slice ad a.l.length c] 39) (.cells #[.int .i64 v.s, .int .i64 v.b.i, .int .i64 v.b.t, .string v.v] 48)
 have hs2 : ((w.alloc (.cells #[.int .i64 a.p.i, .int .i64 a.p.t, .int .i64 a.base, .slice ad a.l.length c] 39)).alloc (.cells #[.int .i64 v.s, .int .i64 v.b.i, .int .i64 v.b.t, .string v.v] 48)).heap.size = w.heap.size + 2 := by simp
 have hb3 := bel1 ((w.alloc (.cells #[.int .i64 a.p.i, .int .i64 a.p.t, .int .i64 a.base, .slice ad a.l.length c] 39)).alloc (.cells #[.int .i64 v.s, .int .i64 v.b.i, .int .i64 v.b.t, .string v.v] 48)) (.cells #[.int .i64 0, .int .i64 0, .int .i64 0, .slice none 0 0] 39)
 have hr3 := heap_alloc_last ((w.alloc (.cells #[.int .i64 a.p.i, .int .i64 a.p.t, .int .i64 a.base, .slice ad a.l.length c] 39)).alloc (.cells #[.int .i64 v.s, .int .i64 v.b.i, .int .i64 v.b.t, .string v.v] 48)) (.cells #[.int .i64 0, .int .i64 0, .int .i64 0, .slice none 0 0] 39)
 have hr1 := Br (heap_alloc2_old w (.cells #[.int .i64 a.p.i, .int .i64 a.p.t, .int .i64 a.base, .slice ad a.l.length c] 39) (.cells #[.int .i64 v.s, .int .i64 v.b.i, .int .i64 v.b.t, .string v.v] 48)) hb3
 have hr2 := Br (heap_alloc2_new w (.cells #[.int .i64 a.p.i, .int .i64 a.p.t, .int .i64 a.base, .slice ad a.l.length c] 39) (.cells #[.int .i64 v.s, .int .i64 v.b.i, .int .i64 v.b.t, .string v.v] 48)) hb3
 have hb1 := Bu hb2 hb3 Lr
 rw [hs2] at hr3; rw [HW1.out] at hr1 hr2 hr3 hb1
 have hs1 : W1.heap.size = w.heap.size + 3 := by rw [← HW1.out]; simp
 have HB1 := Hf hb1
 have HR1 := Hf hr1
 have HR2 := Hf hr2
 have HR3 := Hf hr3
 obtain ⟨⟨z0, z1, z2, z3⟩, _⟩ := row4 hr1
 obtain ⟨⟨u0, u1, u2, u3⟩, _⟩ := row4 hr2
 have hm := rmay_any a ad c v.b W1
 rw [hmx] at hm
 have d0 : decide (v.s < a.base) = false := decide_eq_false (by omega)
 have d1 : decide (1024 ≤ v.s) = false := decide_eq_false (by omega)
 have d2 : decide ((4096 : Int) < (v.v.size : Int)) = false := decide_eq_false (by omega)
 have HXw := Hf hx
 have HU := Hf hu
 have HY := Hf (M.acs_yes hyes)
 clear hb2 hs2 hb3 hr1 hr2 hr3 hb1 hyes hmx h0 h1 hsz hx hu
 go_enter Tryz.func25, Tryz.ntmps25
 go_upto_region 1 with fail
 rw [HW1.out]; clear HW1
 go_wp2_with fail
 refine hm.mono ?_; rintro e w2 ⟨rfl, hb2⟩
 have hR1 := Br HR1.out hb2
 have hR2 := Br HR2.out hb2
 have hR3 := Br HR3.out hb2
 obtain ⟨⟨x0, x1, x2, x3⟩, xf⟩ := row4 hR1
 obtain ⟨⟨y0, y1, y2, y3⟩, _⟩ := row4 hR2
 have xf0 := xf 0
 have xf1 := xf 1
 have hs2 := hb2.size
 have hbA : Below w.heap.size w (put2 w2 w.heap.size (.int .i64 v.b.i) (.int .i64 v.b.t)) := ((Bu HB1.out hb2 Lr).setCell (p := ⟨w.heap.size, 0, none⟩) Lr _ |>.setCell (p := ⟨w.heap.size, 1, none⟩) Lr _)
 have hR1d : (put2 w2 w.heap.size (.int .i64 v.b.i) (.int .i64 v.b.t)).heap[w.heap.size]? = some (.cells #[.int .i64 v.b.i, .int .i64 v.b.t, .int .i64 a.base, .slice ad a.l.length c] 39 (0, 0)) := heap_setCell_same _ w.heap.size 1 _ _ _ (heap_setCell_same w2 w.heap.size 0 _ _ _ hR1)
 have hR2d : (put2 w2 w.heap.size (.int .i64 v.b.i) (.int .i64 v.b.t)).heap[w.heap.size + 1]? = some (.cells #[.int .i64 v.s, .int .i64 v.b.i, .int .i64 v.b.t, .string v.v] 48 (0, 0)) := ((heap_setCell_other _ ⟨w.heap.size, 1, none⟩ _ _ (by simp)).trans (heap_setCell_other _ ⟨w.heap.size, 0, none⟩ _ _ (by simp))).trans hR2
 have hR3d : (put2 w2 w.heap.size (.int .i64 v.b.i) (.int .i64 v.b.t)).heap[w.heap.size + 2]? = some (.cells #[.int .i64 0, .int .i64 0, .int .i64 0, .slice none 0 0] 39 (0, 0)) := ((heap_setCell_other _ ⟨w.heap.size, 1, none⟩ _ _ (by simp)).trans (heap_setCell_other _ ⟨w.heap.size, 0, none⟩ _ _ (by simp))).trans hR3
 have hXd : AtL vl (put2 w2 w.heap.size (.int .i64 v.b.i) (.int .i64 v.b.t)) ad a.l := (HXw.out.at').keep hbA
 have hsd : w.heap.size + 3 ≤ (put2 w2 w.heap.size (.int .i64 v.b.i) (.int .i64 v.b.t)).heap.size := by simp [put2]; omega
 obtain ⟨W3, HW3⟩ := Nh (put2 w2 w.heap.size (.int .i64 v.b.i) (.int .i64 v.b.t))
 have HW3' : Hid ((w2.setCell ⟨w.heap.size, 0, none⟩ (.int .i64 v.b.i)).setCell ⟨w.heap.size, 1, none⟩ (.int .i64 v.b.t) = W3) := HW3.out
 rw [HW3.out] at hbA hR1d hR2d hR3d hXd hsd
 have HBA := Hf hbA
 have HR1d := Hf hR1d
 have HR2d := Hf hR2d
 have HR3d := Hf hR3d
 have HXd := Hf hXd
 have HSD := Hf hsd
 clear hb2 hm hR1 hR2 hR3 xf hs2 hbA hR1d hR2d hR3d hXd hsd HW3 HB1 HR1 HR2 HR3 z0 z1 z2 z3 u0 u1 u2 u3
 go_wp2_with fail
 rw [HW3'.out]; clear HW3' x0 x1 x2 x3 y0 y1 y2 y3 xf0 xf1 d0 d1 d2
 go_loopw [8, 6, 7] (fun i u pv wr => ∃ (k : Nat) (P : Bool) (O : List V), k ≤ a.l.length ∧ i = .int .i64 k ∧ pv = .bool P ∧ OwnL vl 48 wr W3.heap.size u O ∧ Below W3.heap.size W3 wr ∧ Hid (O ++ M.ra v P (a.l.drop k) = M.put a.l v) ∧ O.length ≤ k + 1 ∧ (P = false → O.length ≤ k)) (fun i u pv _ => a.l.length - (intOf i).toNat)
 case atStart => exact ⟨0, false, [], Nat.zero_le _, rfl, rfl, OwnL.nil _ _ _, Below.refl _ _, by rw [List.nil_append, List.drop_zero, M.ra_put v _ HU.out]; exact Hf rfl, by simp, fun _ => by simp⟩
 case round =>
  obtain ⟨k, P, O, hk, rfl, rfl, ho, hbl, HRA, hol, hop⟩ := hrel
  obtain ⟨a1, cap1, rfl, hx1, _⟩ := ho.at
  obtain ⟨⟨z0, z1, z2, z3⟩, _⟩ := row4 (Br HR1d.out hbl)
  obtain ⟨⟨y0, y1, y2, y3⟩, _⟩ := row4 (Br HR2d.out hbl)
  by_cases hlt : k < a.l.length
  ·obtain ⟨g0, off0, rfl, q0, q1, q2, q3⟩ := (HXd.out.keep hbl).getV k hlt
   have HST := Hf (M.ra_drop v P a.l k hlt)
   have hki : (k : Int) < (a.l.length : Int) := by omega
   obtain ⟨x, HEX⟩ := Nh (a.l[k])
   rw [HEX.out] at q0 q1 q2 q3 HST
   have HBL := Hf hbl
   have HOL := Hf ho
   clear hbl ho hx1
   cases P with
   | true =>
    by_cases hne : x.s = v.s
    ·have dne : (x.s == v.s) = true := by simpa using hne
     have HRN : Hid (O ++ M.ra v true (a.l.drop (k + 1)) = M.put a.l v) := Hf (by
      have h := HRA.out
      rw [HST.out, if_neg (by simp), if_neg (fun h => h hne)] at h
      simpa using h)
     clear HRA HST
     go_wp2_with fail
     go_quiet (fail)
     go_wp2_with fail
     obtain ⟨Wb, HWb⟩ := Nh (wr.drewN nq)
     have hbb : Below W3.heap.size W3 Wb := by rw [← HWb.out]; exact below_drewN HBL.out nq
     have hob : OwnL vl 48 Wb W3.heap.size (.slice a1 O.length cap1) O := by rw [← HWb.out]; exact HOL.out.keep (below_drewN (Below.refl wr.heap.size wr) nq)
     rw [HWb.out]; clear HWb HBL HOL z0 z1 z2 z3 y0 y1 y2 y3 q0 q1 q2 q3
     obtain ⟨⟨z0, z1, z2, z3⟩, _⟩ := row4 (Br HR1d.out hbb)
     obtain ⟨⟨y0, y1, y2, y3⟩, _⟩ := row4 (Br HR2d.out hbb)
     obtain ⟨g9, off9, eA, q0, q1, q2, q3⟩ := (HXd.out.keep hbb).getV k hlt
     cases eA
     rw [HEX.out] at q0 q1 q2 q3
     have HBB := Hf hbb
     have HOB := Hf hob
     clear hbb hob
     go_quiet (fail)
     have HB6 : Hid (Below W3.heap.size W3 (Wb.drewN nq)) := below_drewN HBB.out nq
     have HO6 := Hf (HOB.out.keep (below_drewN (Below.refl Wb.heap.size Wb) nq))
     clear HOB HBB; go_wp2
     go_roundw
     case rel => exact ⟨k + 1, true, _, by omega, by go_num, rfl, HO6.out, HB6.out, HRN, (by first | omega | (simp only [List.length_append, List.length_cons, List.length_nil]; omega)), (fun h => by cases h)⟩
     case measure => simp [intOf]; omega
    ·have dne : (x.s == v.s) = false := by simpa using hne
     have HRN : Hid ((O ++ [x]) ++ M.ra v true (a.l.drop (k + 1)) = M.put a.l v) := Hf (by
      have h := HRA.out
      rw [HST.out, if_neg (by simp), if_pos hne] at h
      simpa using h)
     clear HRA HST
     go_wp2_with fail
     go_quiet (fail)
     go_wp2_with fail
     obtain ⟨Wb, HWb⟩ := Nh (wr.drewN nq)
     have hbb : Below W3.heap.size W3 Wb := by rw [← HWb.out]; exact below_drewN HBL.out nq
     have hob : OwnL vl 48 Wb W3.heap.size (.slice a1 O.length cap1) O := by rw [← HWb.out]; exact HOL.out.keep (below_drewN (Below.refl wr.heap.size wr) nq)
     rw [HWb.out]; clear HWb HBL HOL z0 z1 z2 z3 y0 y1 y2 y3 q0 q1 q2 q3
     obtain ⟨⟨z0, z1, z2, z3⟩, _⟩ := row4 (Br HR1d.out hbb)
     obtain ⟨⟨y0, y1, y2, y3⟩, _⟩ := row4 (Br HR2d.out hbb)
     obtain ⟨g9, off9, eA, q0, q1, q2, q3⟩ := (HXd.out.keep hbb).getV k hlt
     cases eA
     rw [HEX.out] at q0 q1 q2 q3
     have HBB := Hf hbb
     have HOB := Hf hob
     clear hbb hob
     go_quiet (fail)
     obtain ⟨a', c', w6, hrun, ho6, hr6⟩ := app1 x (w := Wb.drewN nq) (HOB.out.keep (below_drewN (Below.refl _ _) nq)) (by have := HBB.out.size; exact this) (by omega)
     have HB6 : Hid (Below W3.heap.size W3 w6) := HBB.out.trans ((below_drewN (Below.refl _ _) nq).trans ((hr6.below (B := W3.heap.size) (fun j hj => (HOB.out.lt hj).1) HBB.out.size)))
     have HO6 := Hf ho6
     clear ho6 hr6 HOB HBB
     go_wp2_with (at_builtin; refine wpList_append_known rfl _ _ 37 rfl _ _ rfl rfl _ _ (hrun _) ?_)
     go_roundw
     case rel => exact ⟨k + 1, true, _, by omega, by go_num, rfl, HO6.out, HB6.out, HRN, (by first | omega | (simp only [List.length_append, List.length_cons, List.length_nil]; omega)), (fun h => by cases h)⟩
     case measure => simp [intOf]; omega
   | false =>
    have hol2 := hop rfl
    by_cases hle : v.s ≤ x.s
    ·have dle : decide (v.s ≤ x.s) = true := decide_eq_true hle
     by_cases hne : x.s = v.s
     ·have dne : (x.s == v.s) = true := by simpa using hne
      have HRN : Hid ((O ++ [v]) ++ M.ra v true (a.l.drop (k + 1)) = M.put a.l v) := Hf (by
       have h := HRA.out
       rw [HST.out, if_pos ⟨rfl, hle⟩, if_neg (fun h => h hne), dle] at h
       simpa using h)
      clear HRA HST
      go_wp2_with fail
      go_quiet (fail)
      obtain ⟨a', c', Wb, hrun, hob, hr4⟩ := app1 v (w := wr.drewN nq) (HOL.out.keep (below_drewN (Below.refl _ _) nq)) (by have := HBL.out.size; exact this) (by omega)
      have hbb : Below W3.heap.size W3 Wb := HBL.out.trans ((below_drewN (Below.refl _ _) nq).trans ((hr4.below (B := W3.heap.size) (fun j hj => (HOL.out.lt hj).1) HBL.out.size)))
      clear hr4 HOL HBL
      go_wp2_with (at_builtin; refine wpList_append_known rfl _ _ 37 rfl _ _ rfl rfl _ _ (hrun _) ?_)
      clear hrun z0 z1 z2 z3 y0 y1 y2 y3 q0 q1 q2 q3
      obtain ⟨⟨z0, z1, z2, z3⟩, _⟩ := row4 (Br HR1d.out hbb)
      obtain ⟨⟨y0, y1, y2, y3⟩, _⟩ := row4 (Br HR2d.out hbb)
      obtain ⟨g9, off9, eA, q0, q1, q2, q3⟩ := (HXd.out.keep hbb).getV k hlt
      cases eA
      rw [HEX.out] at q0 q1 q2 q3
      have HBB := Hf hbb
      have HOB := Hf hob
      clear hbb hob
      go_quiet (fail)
      have HB6 : Hid (Below W3.heap.size W3 (Wb.drewN nq)) := below_drewN HBB.out nq
      have HO6 := Hf (HOB.out.keep (below_drewN (Below.refl Wb.heap.size Wb) nq))
      clear HOB HBB; go_wp2
      go_roundw
      case rel => exact ⟨k + 1, true, _, by omega, by go_num, rfl, HO6.out, HB6.out, HRN, (by first | omega | (simp only [List.length_append, List.length_cons, List.length_nil]; omega)), (fun h => by cases h)⟩
      case measure => simp [intOf]; omega
     ·have dne : (x.s == v.s) = false := by simpa using hne
      have HRN : Hid (((O ++ [v]) ++ [x]) ++ M.ra v true (a.l.drop (k + 1)) = M.put a.l v) := Hf (by
       have h := HRA.out
       rw [HST.out, if_pos ⟨rfl, hle⟩, if_pos hne, dle] at h
       simpa using h)
      clear HRA HST
      go_wp2_with fail
      go_quiet (fail)
      obtain ⟨a', c', Wb, hrun, hob, hr4⟩ := app1 v (w := wr.drewN nq) (HOL.out.keep (below_drewN (Below.refl _ _) nq)) (by have := HBL.out.size; exact this) (by omega)
      have hbb : Below W3.heap.size W3 Wb := HBL.out.trans ((below_drewN (Below.refl _ _) nq).trans ((hr4.below (B := W3.heap.size) (fun j hj => (HOL.out.lt hj).1) HBL.out.size)))
      clear hr4 HOL HBL
      go_wp2_with (at_builtin; refine wpList_append_known rfl _ _ 37 rfl _ _ rfl rfl _ _ (hrun _) ?_)
      clear hrun z0 z1 z2 z3 y0 y1 y2 y3 q0 q1 q2 q3
      obtain ⟨⟨z0, z1, z2, z3⟩, _⟩ := row4 (Br HR1d.out hbb)
      obtain ⟨⟨y0, y1, y2, y3⟩, _⟩ := row4 (Br HR2d.out hbb)
      obtain ⟨g9, off9, eA, q0, q1, q2, q3⟩ := (HXd.out.keep hbb).getV k hlt
      cases eA
      rw [HEX.out] at q0 q1 q2 q3
      have HBB := Hf hbb
      have HOB := Hf hob
      clear hbb hob
      go_quiet (fail)
      obtain ⟨a', c', w6, hrun, ho6, hr6⟩ := app1 x (l := O ++ [v]) (w := Wb.drewN nq) (HOB.out.keep (below_drewN (Below.refl _ _) nq)) (by have := HBB.out.size; exact this) (by simp only [List.length_append, List.length_cons, List.length_nil]; omega)
      simp only [List.length_append, List.length_cons, List.length_nil, Nat.zero_add] at hrun ho6 hr6
      have HB6 : Hid (Below W3.heap.size W3 w6) := HBB.out.trans ((below_drewN (Below.refl _ _) nq).trans ((hr6.below (B := W3.heap.size) (fun j hj => (HOB.out.lt hj).1) HBB.out.size)))
      have HO6 := Hf ho6
      clear ho6 hr6 HOB HBB
      go_wp2_with (at_builtin; refine wpList_append_known rfl _ _ 37 rfl _ _ rfl rfl _ _ (hrun _) ?_)
      go_roundw
      case rel => exact ⟨k + 1, true, _, by omega, by go_num, rfl, HO6.out, HB6.out, HRN, (by first | omega | (simp only [List.length_append, List.length_cons, List.length_nil]; omega)), (fun h => by cases h)⟩
      case measure => simp [intOf]; omega
    ·have dle : decide (v.s ≤ x.s) = false := decide_eq_false hle
     have hne : ¬ x.s = v.s := by omega
     have dne : (x.s == v.s) = false := by simpa using hne
     have HRN : Hid ((O ++ [x]) ++ M.ra v false (a.l.drop (k + 1)) = M.put a.l v) := Hf (by
      have h := HRA.out
      rw [HST.out, if_neg (fun h => hle h.2), if_pos hne, dle] at h
      simpa using h)
     clear HRA HST
     go_wp2_with fail
     go_quiet (fail)
     go_wp2_with fail
     obtain ⟨Wb, HWb⟩ := Nh (wr.drewN nq)
     have hbb : Below W3.heap.size W3 Wb := by rw [← HWb.out]; exact below_drewN HBL.out nq
     have hob : OwnL vl 48 Wb W3.heap.size (.slice a1 O.length cap1) O := by rw [← HWb.out]; exact HOL.out.keep (below_drewN (Below.refl wr.heap.size wr) nq)
     rw [HWb.out]; clear HWb HBL HOL z0 z1 z2 z3 y0 y1 y2 y3 q0 q1 q2 q3
     obtain ⟨⟨z0, z1, z2, z3⟩, _⟩ := row4 (Br HR1d.out hbb)
     obtain ⟨⟨y0, y1, y2, y3⟩, _⟩ := row4 (Br HR2d.out hbb)
     obtain ⟨g9, off9, eA, q0, q1, q2, q3⟩ := (HXd.out.keep hbb).getV k hlt
     cases eA
     rw [HEX.out] at q0 q1 q2 q3
     have HBB := Hf hbb
     have HOB := Hf hob
     clear hbb hob
     go_quiet (fail)
     obtain ⟨a', c', w6, hrun, ho6, hr6⟩ := app1 x (w := Wb.drewN nq) (HOB.out.keep (below_drewN (Below.refl _ _) nq)) (by have := HBB.out.size; exact this) (by omega)
     have HB6 : Hid (Below W3.heap.size W3 w6) := HBB.out.trans ((below_drewN (Below.refl _ _) nq).trans ((hr6.below (B := W3.heap.size) (fun j hj => (HOB.out.lt hj).1) HBB.out.size)))
     have HO6 := Hf ho6
     clear ho6 hr6 HOB HBB
     go_wp2_with (at_builtin; refine wpList_append_known rfl _ _ 37 rfl _ _ rfl rfl _ _ (hrun _) ?_)
     go_roundw
     case rel => exact ⟨k + 1, false, _, by omega, by go_num, rfl, HO6.out, HB6.out, HRN, (by first | omega | (simp only [List.length_append, List.length_cons, List.length_nil]; omega)), (fun _ => (by first | omega | (simp only [List.length_append, List.length_cons, List.length_nil]; omega)))⟩
     case measure => simp [intOf]; omega
  ·obtain rfl : k = a.l.length := by omega
   cases P with
   | true =>
    have HOE : Hid (OwnL vl 48 wr W3.heap.size (.slice a1 O.length cap1) (M.put a.l v)) := Hf (by
     have h := HRA.out
     rw [List.drop_of_length_le Lr, M.ra, if_pos rfl, List.append_nil] at h; rw [← h]
     exact ho)
    have HBE := Hf hbl
    clear ho hbl hx1 z0 z1 z2 z3 y0 y1 y2 y3
    have hse := HSD.out
    have hR1 := Br HR1d.out HBE.out
    have hR3 := Br HR3d.out HBE.out
    obtain ⟨⟨x0, x1, x2, x3⟩, xf⟩ := row4 hR1
    have xf3 := xf 3
    obtain ⟨⟨r0, r1, r2, r3⟩, rf⟩ := row4 hR3
    have rf0 := rf 0
    have rf1 := rf 1
    have rf2 := rf 2
    have rf3 := rf 3
    obtain ⟨ae, ce, hve, hxe, hbke⟩ := HOE.out.at
    have hrow : (put4 (wr.setCell ⟨w.heap.size, 3, none⟩ (.slice ae (M.put a.l v).length ce)) (w.heap.size + 2) (.int .i64 v.b.i) (.int .i64 v.b.t) (.int .i64 a.base) (.slice ae (M.put a.l v).length ce)).heap[w.heap.size + 2]? = some (.cells #[.int .i64 v.b.i, .int .i64 v.b.t, .int .i64 a.base, .slice ae (M.put a.l v).length ce] 39 (0, 0)) :=
     put4_row ((heap_setCell_other _ ⟨w.heap.size, 3, none⟩ _ _ (by simp)).trans hR3) _ _ _ _
    have HROW := Hf hrow
    have HDS : Hid (DS w (M.acs a v) (.agg #[.int .i64 v.b.i, .int .i64 v.b.t, .int .i64 a.base, .slice ae (M.put a.l v).length ce]) (put4 (wr.setCell ⟨w.heap.size, 3, none⟩ (.slice ae (M.put a.l v).length ce)) (w.heap.size + 2) (.int .i64 v.b.i) (.int .i64 v.b.t) (.int .i64 a.base) (.slice ae (M.put a.l v).length ce))) := by
     have hg0 : (fun k => k = w.heap.size ∨ k = w.heap.size + 2) w.heap.size := .inl rfl
     have hg1 : (fun k => k = w.heap.size ∨ k = w.heap.size + 2) (w.heap.size + 2) := .inr rfl
     have hF := fr_set (fr_set (fr_set (fr_set (fr_set (Fr.refl wr fun k => k = w.heap.size ∨ k = w.heap.size + 2) hg0 3 (.slice ae (M.put a.l v).length ce)) hg1 0 (.int .i64 v.b.i)) hg1 1 (.int .i64 v.b.t)) hg1 2 (.int .i64 a.base)) hg1 3 (.slice ae (M.put a.l v).length ce)
     obtain ⟨q1, q2, q3⟩ := ds_of (m := W3.heap.size) (Bu HBA.out HBE.out Lr) hxe (fun j hj => ⟨(hbke j hj).1, (hbke j hj).2.2⟩) hF (fun k hk => by rcases hk with rfl | rfl <;> omega)
     rw [HY.out]
     exact ⟨ae, ce, rfl, q1, q2, q3⟩
    simp only [Value.slice.injEq] at hve
    obtain ⟨rfl, hn, rfl⟩ := hve
    rw [hn]; clear hse hR1 hR3 xf rf hxe hbke hrow HOE HBE HRA
    generalize (M.put a.l v).length = np at *
    go_wp2
    refine bodyPost_ret (v := .tuple #[.agg #[.int .i64 v.b.i, .int .i64 v.b.t, .int .i64 a.base, .slice a1 np cap1], .bool true]) ?_ rfl ⟨_, rfl, HDS.out⟩
    exact res31 f25_res _ _ (w.heap.size + 2) _ _ _ _ rfl HROW.out
   | false =>
    obtain ⟨a', c', We, hrun, ho4, hr4⟩ := app1 v ho (by exact hbl.size) (by omega)
    have HOE : Hid (OwnL vl 48 We W3.heap.size (.slice a' (O.length + 1) c') (M.put a.l v)) := Hf (by
     have h := HRA.out
     rw [List.drop_of_length_le Lr, M.ra, if_neg (by simp)] at h; rw [← h]
     exact ho4)
    have HBE : Hid (Below W3.heap.size W3 We) := hbl.trans (hr4.below (fun j hj => (ho.lt hj).1) hbl.size)
    clear ho hbl hx1 ho4 hr4
    have hse := HSD.out
    have hR1 := Br HR1d.out HBE.out
    have hR3 := Br HR3d.out HBE.out
    obtain ⟨⟨x0, x1, x2, x3⟩, xf⟩ := row4 hR1
    have xf3 := xf 3
    obtain ⟨⟨r0, r1, r2, r3⟩, rf⟩ := row4 hR3
    have rf0 := rf 0
    have rf1 := rf 1
    have rf2 := rf 2
    have rf3 := rf 3
    obtain ⟨ae, ce, hve, hxe, hbke⟩ := HOE.out.at
    have hrow : (put4 (We.setCell ⟨w.heap.size, 3, none⟩ (.slice ae (M.put a.l v).length ce)) (w.heap.size + 2) (.int .i64 v.b.i) (.int .i64 v.b.t) (.int .i64 a.base) (.slice ae (M.put a.l v).length ce)).heap[w.heap.size + 2]? = some (.cells #[.int .i64 v.b.i, .int .i64 v.b.t, .int .i64 a.base, .slice ae (M.put a.l v).length ce] 39 (0, 0)) :=
     put4_row ((heap_setCell_other _ ⟨w.heap.size, 3, none⟩ _ _ (by simp)).trans hR3) _ _ _ _
    have HROW := Hf hrow
    have HDS : Hid (DS w (M.acs a v) (.agg #[.int .i64 v.b.i, .int .i64 v.b.t, .int .i64 a.base, .slice ae (M.put a.l v).length ce]) (put4 (We.setCell ⟨w.heap.size, 3, none⟩ (.slice ae (M.put a.l v).length ce)) (w.heap.size + 2) (.int .i64 v.b.i) (.int .i64 v.b.t) (.int .i64 a.base) (.slice ae (M.put a.l v).length ce))) := by
     have hg0 : (fun k => k = w.heap.size ∨ k = w.heap.size + 2) w.heap.size := .inl rfl
     have hg1 : (fun k => k = w.heap.size ∨ k = w.heap.size + 2) (w.heap.size + 2) := .inr rfl
     have hF := fr_set (fr_set (fr_set (fr_set (fr_set (Fr.refl We fun k => k = w.heap.size ∨ k = w.heap.size + 2) hg0 3 (.slice ae (M.put a.l v).length ce)) hg1 0 (.int .i64 v.b.i)) hg1 1 (.int .i64 v.b.t)) hg1 2 (.int .i64 a.base)) hg1 3 (.slice ae (M.put a.l v).length ce)
     obtain ⟨q1, q2, q3⟩ := ds_of (m := W3.heap.size) (Bu HBA.out HBE.out Lr) hxe (fun j hj => ⟨(hbke j hj).1, (hbke j hj).2.2⟩) hF (fun k hk => by rcases hk with rfl | rfl <;> omega)
     rw [HY.out]
     exact ⟨ae, ce, rfl, q1, q2, q3⟩
    simp only [Value.slice.injEq] at hve
    obtain ⟨rfl, hn, rfl⟩ := hve
    rw [hn] at hrun; clear hse hR1 hR3 xf rf hxe hbke hrow HOE HBE HRA
    generalize (M.put a.l v).length = np at *
    go_wp2_with (at_builtin; refine wpList_append_known rfl _ _ 37 rfl _ _ rfl rfl _ _ (hrun _) ?_)
    refine bodyPost_ret (v := .tuple #[.agg #[.int .i64 v.b.i, .int .i64 v.b.t, .int .i64 a.base, .slice a' np c'], .bool true]) ?_ rfl ⟨_, rfl, HDS.out⟩
    exact res31 f25_res _ _ (w.heap.size + 2) _ _ _ _ rfl HROW.out
end Go.Proofs.YtlnedgjikkhplaaGreat.Na
namespace Go.Proofs.YtlnedgjikkhplaaGreat.Nc
open Go.RowKit
theorem and127b (x : Nat) (h : x < 18446744073709551616) : bits .and .u64 (x : Int) 127 = (x : Int) % 128 := by
 have h2 : bits .and .u64 (x : Int) 127 = ((x &&& 127 : Nat) : Int) := u64_and_nat x 127 h (by decide)
 rw [h2, Nat.and_two_pow_sub_one_eq_mod x 7]
 rfl
theorem byte_more2 (x : Nat) : bits .or .u8 ((x : Int) % 128) 128 = ((UInt8.ofNat (x % 128 + 128)).toNat : Int) := by
 have h := byte_more (x % 128)
 rw [show ((x % 128 : Nat) : Int) % 256 = (x : Int) % 128 by omega, show x % 128 % 128 = x % 128 by omega] at h
 exact h
theorem xor_flip (a b : Int) : bits .xor .u64 a b = bits .xor .u64 b a := by
 unfold bits
 simp only [BitVec.xor_comm]
theorem zz_neg2 (n : Int) (h0 : -9223372036854775808 ≤ n) (hneg : n < 0) : bits .xor .u64 (IntKind.u64.wrap (IntKind.u64.wrap n * 2)) 18446744073709551615 = ((M.zz n : Nat) : Int) := by
 rw [xor_flip]
 exact zz_neg n h0 hneg
theorem refInt_any (n : Int) (w : World) (hn : -9223372036854775808 ≤ n ∧ n ≤ 9223372036854775807) :
  Calls Tryz.prog 126 #[.int .i64 n] w fun x w' => x = .returned (.string (ofL (M.enc n))) ∧ Below w.heap.size w w' := by
 obtain ⟨i0, hi, hz0, hz1, hz2⟩ := info_parts Tryz.info5
 have hzl := M.zz_lt n hn
 have het := M.enc_ten n hn
 have HE : Hid (M.enc n = M.grp (M.zz n)) := rfl
 have hcase : n < 0 ∨ ∃ m : Nat, n = m := by
  by_cases h : n < 0
  ·exact .inl h
  ·obtain ⟨m, rfl⟩ := Int.eq_ofNat_of_zero_le (show 0 ≤ n by omega)
   exact .inr ⟨m, rfl⟩
 rcases hcase with hneg | ⟨m, rfl⟩
 ·have hzz := zz_neg2 n hn.1 hneg
  have hd : decide (n < 0) = true := by simpa using hneg
  obtain ⟨z, hz⟩ : ∃ z, z = M.zz n := ⟨_, rfl⟩
  rw [← hz] at hzz hzl HE; clear hz
  go_enter Tryz.func126, Tryz.ntmps126
  go_wp2; clear hzz
  go_loopw [3, 4] (fun u v wr => ∃ (x : Nat) (pre : List UInt8), u = .int .u64 x ∧ x < 18446744073709551616 ∧ wr.ownsRow w.heap.size 5 1 v pre.length (vals pre) ∧ Below w.heap.size w wr ∧ Hid (pre ++ M.grp x = M.enc n)) (fun u _ _ => (intOf u).toNat)
  case atStart => exact ⟨z, [], rfl, hzl, World.ownsRow_nil _ _ _ _, Below.refl _ _, HE.out.symm⟩
  case round =>
   obtain ⟨x, pre, rfl, hx, hown, hbel, HP⟩ := hrel
   have hle := hbel.size
   have hpl : pre.length ≤ 10 := by
    have := congrArg List.length HP.out
    rw [List.length_append] at this
    omega
   by_cases hlt : 128 ≤ x
   ·have hand := and127b x hx
    have HV : Hid (vals pre ++ [Value.int .u8 (bits BinOp.or IntKind.u8 ((x : Int) % 128) 128)] = vals (pre ++ [UInt8.ofNat (x % 128 + 128)])) := vals_snoc _ _ _ (byte_more2 x)
    have HP2 : Hid ((pre ++ [UInt8.ofNat (x % 128 + 128)]) ++ M.grp (x / 128) = M.enc n) := by
     show _ = _
     rw [← HP.out, M.grp_great x (by omega)]
     simp
    go_wp2_with (at_builtin; refine wpList_append_own _ rfl _ _ 138 rfl w.heap.size 5 i0 (.int .u8 0) 1 1 Tryz.underlying138 hi hz0 hz1 hz2 rfl (by decide) _ _ _ rfl (hown.alloc _) ⟨wr.heap.size, 0, none⟩ 1 1 [.int .u8 (bits BinOp.or IntKind.u8 ((x : Int) % 128) 128)] rfl rfl (cell_one_new _ _ _) (by simp; rfl) (by unfold maxLen; omega) (by omega) (by simp; omega) ?_; intro v' w2 hown2 hgrow hnil)
    rw [HV.out] at hown2
    have hb2 := (hbel.alloc hle _).grown hgrow (by simp; omega) (fun j hj => (hown.lt j hj).1)
    clear hown hgrow; go_wp2
    go_roundw
    case rel => exact ⟨x / 128, pre ++ [UInt8.ofNat (x % 128 + 128)], by first | rfl | go_num, by omega, by rw [List.length_append]; exact hown2, hb2, HP2⟩
    case measure => simp [intOf]; omega
   ·have HV : Hid (vals pre ++ [Value.int .u8 (x : Int)] = vals (pre ++ [UInt8.ofNat x])) := vals_snoc _ _ _ (byte_last x (by omega)).symm
    have HP2 : Hid (pre ++ [UInt8.ofNat x] = M.enc n) := by
     show _ = _
     rw [← HP.out, M.grp_small x (by omega)]
    go_wp2_with (at_builtin; refine wpList_append_own _ rfl _ _ 138 rfl w.heap.size 5 i0 (.int .u8 0) 1 1 Tryz.underlying138 hi hz0 hz1 hz2 rfl (by decide) _ _ _ rfl (hown.alloc _) ⟨wr.heap.size, 0, none⟩ 1 1 [.int .u8 (x : Int)] rfl rfl (cell_one_new _ _ _) (by simp; rfl) (by unfold maxLen; omega) (by omega) (by simp; omega) ?_; intro v' w2 hown2 hgrow hnil; rw [HV.out] at hown2; have hcv := owns_convert hown2 (by simp); rw [HP2.out] at hcv; have hb2 := (hbel.alloc hle _).grown hgrow (by simp; omega) (fun j hj => (hown.lt j hj).1); clear hown hgrow)
    go_ret
    exact ⟨rfl, hb2⟩
 ·have hzz := (zz_pos m).symm
  obtain ⟨n, hnm⟩ : ∃ n : Int, n = m := ⟨_, rfl⟩
  obtain ⟨z, hz⟩ : ∃ z, z = M.zz m := ⟨_, rfl⟩
  rw [← hz] at hzz hzl HE; clear hz
  have HNM : Hid ((m : Int) = n) := hnm.symm
  rw [HNM.out]; rw [← hnm] at het HE
  have hnn : (0 : Int) ≤ n := by omega
  have hd : decide (n < 0) = false := by simp; omega
  rw [← hnm] at hzz hn; clear hnm
  go_enter Tryz.func126, Tryz.ntmps126
  go_wp2; clear hzz
  go_loopw [3, 4] (fun u v wr => ∃ (x : Nat) (pre : List UInt8), u = .int .u64 x ∧ x < 18446744073709551616 ∧ wr.ownsRow w.heap.size 5 1 v pre.length (vals pre) ∧ Below w.heap.size w wr ∧ Hid (pre ++ M.grp x = M.enc n)) (fun u _ _ => (intOf u).toNat)
  case atStart => exact ⟨z, [], rfl, hzl, World.ownsRow_nil _ _ _ _, Below.refl _ _, HE.out.symm⟩
  case round =>
   obtain ⟨x, pre, rfl, hx, hown, hbel, HP⟩ := hrel
   have hle := hbel.size
   have hpl : pre.length ≤ 10 := by
    have := congrArg List.length HP.out
    rw [List.length_append] at this
    omega
   by_cases hlt : 128 ≤ x
   ·have hand := and127b x hx
    have HV : Hid (vals pre ++ [Value.int .u8 (bits BinOp.or IntKind.u8 ((x : Int) % 128) 128)] = vals (pre ++ [UInt8.ofNat (x % 128 + 128)])) := vals_snoc _ _ _ (byte_more2 x)
    have HP2 : Hid ((pre ++ [UInt8.ofNat (x % 128 + 128)]) ++ M.grp (x / 128) = M.enc n) := by
     show _ = _
     rw [← HP.out, M.grp_great x (by omega)]
     simp
    go_wp2_with (at_builtin; refine wpList_append_own _ rfl _ _ 138 rfl w.heap.size 5 i0 (.int .u8 0) 1 1 Tryz.underlying138 hi hz0 hz1 hz2 rfl (by decide) _ _ _ rfl (hown.alloc _) ⟨wr.heap.size, 0, none⟩ 1 1 [.int .u8 (bits BinOp.or IntKind.u8 ((x : Int) % 128) 128)] rfl rfl (cell_one_new _ _ _) (by simp; rfl) (by unfold maxLen; omega) (by omega) (by simp; omega) ?_; intro v' w2 hown2 hgrow hnil)
    rw [HV.out] at hown2
    have hb2 := (hbel.alloc hle _).grown hgrow (by simp; omega) (fun j hj => (hown.lt j hj).1)
    clear hown hgrow; go_wp2
    go_roundw
    case rel => exact ⟨x / 128, pre ++ [UInt8.ofNat (x % 128 + 128)], by first | rfl | go_num, by omega, by rw [List.length_append]; exact hown2, hb2, HP2⟩
    case measure => simp [intOf]; omega
   ·have HV : Hid (vals pre ++ [Value.int .u8 (x : Int)] = vals (pre ++ [UInt8.ofNat x])) := vals_snoc _ _ _ (byte_last x (by omega)).symm
    have HP2 : Hid (pre ++ [UInt8.ofNat x] = M.enc n) := by
     show _ = _
     rw [← HP.out, M.grp_small x (by omega)]
    go_wp2_with (at_builtin; refine wpList_append_own _ rfl _ _ 138 rfl w.heap.size 5 i0 (.int .u8 0) 1 1 Tryz.underlying138 hi hz0 hz1 hz2 rfl (by decide) _ _ _ rfl (hown.alloc _) ⟨wr.heap.size, 0, none⟩ 1 1 [.int .u8 (x : Int)] rfl rfl (cell_one_new _ _ _) (by simp; rfl) (by unfold maxLen; omega) (by omega) (by simp; omega) ?_; intro v' w2 hown2 hgrow hnil; rw [HV.out] at hown2; have hcv := owns_convert hown2 (by simp); rw [HP2.out] at hcv; have hb2 := (hbel.alloc hle _).grown hgrow (by simp; omega) (fun j hj => (hown.lt j hj).1); clear hown hgrow)
    go_ret
    exact ⟨rfl, hb2⟩
theorem refText_any (s : List UInt8) (w : World) (hs : s.length ≤ 70000) :
  Calls Tryz.prog 124 #[.string (ofL s)] w fun x w' => x = .returned (.string (ofL (M.encT s))) ∧ Below w.heap.size w w' := by
 have hsz := ofL_size s
 have HE : Hid (M.enc s.length ++ s = M.encT s) := rfl
 have het := M.enc_ten s.length (by omega)
 have hsz2 := ofL_size (M.enc s.length)
 have happ := ofL_app (M.enc s.length) s
 go_enter Tryz.func124, Tryz.ntmps124
 go_wp2_with fail
 refine (refInt_any s.length w (by omega)).mono ?_; rintro x w1 ⟨rfl, hb⟩
 generalize M.enc s.length = pre at *
 go_wp2
 go_ret
 rw [← HE.out]
 exact ⟨rfl, hb⟩
end Go.Proofs.YtlnedgjikkhplaaGreat.Nc
