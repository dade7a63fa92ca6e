/- The document's stripes: Move, Get. -/
import Derived.Test.YtgcfpihfoekllaaFC

namespace Go.Proofs.Ytgcfpihfoekllaa

open Go.RowKit

set_option linter.unusedVariables false

open Sm (S)

section
variable {w w' w'' : World} {K K' : Nat → Prop} {v u : Value} {ds : List E} {m : List S}
set_option maxRecDepth 100000 in
set_option maxHeartbeats 4000000 in
theorem refMove_any (h : DM w K v m) (hG : Sm.G m) (i x y : Int) : Calls Try.prog 34 #[v, .int .i64 i, .int .i64 x, .int .i64 y] w (DOut w K (fun u => .tuple #[u, .int .i64 (Sm.mc m i x y)]) (Sm.mm m i x y)) := by
  have HM := Hid_of h
  obtain ⟨ds, hD, rfl⟩ := h
  have hn := hG.ln
  rw [List.length_map] at hn
  have HD := Hid_of hD
  have hsv := hD.sv
  obtain ⟨⟨av, cv, rfl, hx, -⟩, -, -⟩ := hD
  have HNO : Hid (¬ Sm.mc (ds.map (·.s)) i x y = 0 → DOut w K (fun u => .tuple #[u, .int .i64 (Sm.mc (ds.map (·.s)) i x y)]) (Sm.mm (ds.map (·.s)) i x y) (.returned (.tuple #[.slice av ds.length cv, .int .i64 (Sm.mc (ds.map (·.s)) i x y)])) w) := Hid_of fun e => by
    rw [show Sm.mm (ds.map (·.s)) i x y = ds.map (·.s) by unfold Sm.mm; rw [if_neg e]]
    exact DOut.same HM.out (fun u => .tuple #[u, .int .i64 (Sm.mc (ds.map (·.s)) i x y)]) (Below.refl _ _)
  have hk := known_any av ds.length cv i w
  have hwo : (i < 0 ∨ (ds.length : Int) ≤ i) → Sm.wd (ds.map (·.s)) i = 8 := fun hi => by unfold Sm.wd; rw [Sm.at_out (by simpa using hi)]
  have hwi : ∀ (k : Nat) (hk : k < ds.length), i = (k : Int) → Sm.wd (ds.map (·.s)) i = ds[k].s.l.length := fun k hk e => by
    subst e
    unfold Sm.wd
    obtain ⟨q, e⟩ := Sm.at_in (m := ds.map (·.s)) (i := (k : Int)) (by omega) (by simp; omega)
    rw [e]
    simp
  rcases Sm.mc_cases (ds.map (·.s)) i x y with ⟨h1, k0⟩ | ⟨h0, h1, h2, hc⟩
  · have HQ := Hid_of (HNO.out (by rw [k0]; decide))
    rw [k0] at HQ ⊢
    by_cases e0 : y < 0
    · have d0 : decide (y < 0) = true := decide_eq_true e0
      clear HNO hx hk hwo hwi h1 k0 e0 hsv
      go_enter Try.func34, Try.ntmps34
      go_wp2
      go_ret2
      exact HQ.out
    have d0 : decide (y < 0) = false := decide_eq_false e0
    by_cases e1 : 63 < y
    · have d1 : decide ((63 : Int) < y) = true := decide_eq_true e1
      clear HNO hx hk hwo hwi h1 k0 e0 e1 hsv
      go_enter Try.func34, Try.ntmps34
      go_wp2
      go_ret2
      exact HQ.out
    have d1 : decide ((63 : Int) < y) = false := decide_eq_false e1
    by_cases hi : 0 ≤ i ∧ i < (ds.length : Int)
    · rw [decide_eq_true hi] at hk
      obtain ⟨k, rfl⟩ := Int.eq_ofNat_of_zero_le hi.1
      have hk2 : k < ds.length := by omega
      have hwk := hwi k hk2 rfl
      rw [hwk] at h1
      have hki : (k : Int) < (ds.length : Int) := hi.2
      obtain ⟨g, off, rfl, c0, c1, c2, c3, c4, c5⟩ := hx.at'.getE k hk2
      by_cases f0 : x < 0
      · have d2 : decide (x < 0) = true := decide_eq_true f0
        clear HNO hx hwo hwi hwk h1 k0 e0 e1 f0 hsv
        generalize ds[k] = z at *
        go_enter Try.func34, Try.ntmps34
        go_wp2_with fail
        refine hk.mono ?_
        rintro e w1 ⟨rfl, hw1⟩
        subst w1
        clear hk
        go_wp2
        go_ret2
        exact HQ.out
      have d2 : decide (x < 0) = false := decide_eq_false f0
      have d3 : decide ((ds[k].s.l.length : Int) ≤ x) = true := decide_eq_true (by omega)
      clear HNO hx hwo hwi hwk h1 k0 e0 e1 f0 hsv
      generalize ds[k] = z at *
      go_enter Try.func34, Try.ntmps34
      go_wp2_with fail
      refine hk.mono ?_
      rintro e w1 ⟨rfl, hw1⟩
      subst w1
      clear hk
      go_wp2
      go_ret2
      exact HQ.out
    · rw [decide_eq_false hi] at hk
      have hw8 := hwo (by omega)
      rw [hw8] at h1
      by_cases f0 : x < 0
      · have d2 : decide (x < 0) = true := decide_eq_true f0
        clear HNO hx hwo hwi hw8 h1 k0 e0 e1 f0 hi hsv
        go_enter Try.func34, Try.ntmps34
        go_wp2_with fail
        refine hk.mono ?_
        rintro e w1 ⟨rfl, hw1⟩
        subst w1
        go_wp2_with fail
        refine hk.mono ?_
        rintro e w1 ⟨rfl, hw1⟩
        subst w1
        clear hk
        go_wp2
        go_ret2
        exact HQ.out
      have d2 : decide (x < 0) = false := decide_eq_false f0
      have d3 : decide ((8 : Int) ≤ x) = true := decide_eq_true (by omega)
      clear HNO hx hwo hwi hw8 h1 k0 e0 e1 f0 hi hsv
      go_enter Try.func34, Try.ntmps34
      go_wp2_with fail
      refine hk.mono ?_
      rintro e w1 ⟨rfl, hw1⟩
      subst w1
      go_wp2_with fail
      refine hk.mono ?_
      rintro e w1 ⟨rfl, hw1⟩
      subst w1
      clear hk
      go_wp2
      go_ret2
      exact HQ.out
  have d0 : decide (y < 0) = false := decide_eq_false (by omega)
  have d1 : decide ((63 : Int) < y) = false := decide_eq_false (by omega)
  have d2 : decide (x < 0) = false := decide_eq_false (by omega)
  rcases hc with ⟨hi, k0, k1⟩ | ⟨hk0, hi0, hi1, hwd, hc⟩
  · rw [List.length_map] at hi
    rw [decide_eq_false (show ¬ (0 ≤ i ∧ i < (ds.length : Int)) by omega)] at hk
    rw [k0] at h1
    have d3 : decide ((8 : Int) ≤ x) = false := decide_eq_false (by omega)
    have HQ := Hid_of (HNO.out (by rw [k1]; decide))
    rw [k1] at HQ ⊢
    clear HNO hx hwo hwi h0 h1 h2 k0 k1 hi hsv
    go_enter Try.func34, Try.ntmps34
    go_wp2_with fail
    refine hk.mono ?_
    rintro e w1 ⟨rfl, hw1⟩
    subst w1
    go_wp2_with fail
    refine hk.mono ?_
    rintro e w1 ⟨rfl, hw1⟩
    subst w1
    go_wp2_with fail
    refine hk.mono ?_
    rintro e w1 ⟨rfl, hw1⟩
    subst w1
    clear hk
    go_wp2
    go_ret2
    exact HQ.out
  · obtain ⟨k, rfl⟩ := Int.eq_ofNat_of_zero_le hi0
    rw [List.length_map] at hi1
    rw [decide_eq_true (show (0 : Int) ≤ (k : Int) ∧ (k : Int) < (ds.length : Int) by omega)] at hk
    simp only [Int.toNat_natCast, List.length_map, List.getElem_map] at hk0 hc hwd
    have hk2 : k < ds.length := by omega
    have hki : (k : Int) < (ds.length : Int) := hi1
    rw [hwd] at h1
    have d3 : decide ((ds[k].s.l.length : Int) ≤ x) = false := decide_eq_false (by omega)
    have hl8 := (hG.get (i := k) (by simpa using hk2)).2.2.2.2.2.2.1
    simp only [List.getElem_map] at hl8
    obtain ⟨hxs, hks⟩ := hsv _ (List.getElem_mem hk2)
    have hat := refAt_any ds[k].a ds[k].c ds[k].s.l y w (by omega) hxs.at'
    have HX := Hid_of hx
    obtain ⟨g, off, rfl, c0, c1, c2, c3, c4, c5⟩ := hx.at'.getE k hk2
    rcases hc with ⟨p0, p1, k1⟩ | ⟨hp, hc⟩
    · have d4 : decide ((0 : Int) ≤ Mb.pl ds[k].s.l y) = true := decide_eq_true p0
      have d5 : (Mb.pl ds[k].s.l y != x) = true := by simpa using p1
      have d5' : (Mb.pl ds[k].s.l y == x) = false := by simpa using p1
      have HQ := Hid_of (HNO.out (by rw [k1]; decide))
      rw [k1] at HQ ⊢
      clear HNO hx hwo hwi h0 h1 h2 k1 p0 p1 hsv hxs hks hwd hl8
      generalize Mb.pl ds[k].s.l y = pv at *
      generalize ds[k] = z at *
      go_enter Try.func34, Try.ntmps34
      go_wp2_with fail
      refine hk.mono ?_
      rintro e w1 ⟨rfl, hw1⟩
      subst w1
      go_wp2_with fail
      refine hk.mono ?_
      rintro e w1 ⟨rfl, hw1⟩
      subst w1
      go_wp2_with fail
      refine hk.mono ?_
      rintro e w1 ⟨rfl, hw1⟩
      subst w1
      clear hk
      go_wp2_with fail
      refine hat.mono ?_
      rintro e w1 ⟨rfl, hw1⟩
      subst w1
      clear hat
      go_wp2
      go_ret2
      exact HQ.out
    · obtain ⟨q, hq⟩ : ∃ q, decide ((0 : Int) ≤ Mb.pl ds[k].s.l y) = q := ⟨_, rfl⟩
      have HDD : Hid (q = true → (Mb.pl ds[k].s.l y != x) = false ∧ (Mb.pl ds[k].s.l y == x) = true) := Hid_of fun e => by
        rw [← hq] at e
        have e := of_decide_eq_true e
        have : Mb.pl ds[k].s.l y = x := by omega
        simp [this]
      rcases hc with ⟨k3, k1⟩ | ⟨k3, k1⟩
      · have d6 : (ds[k].s.st == 3) = true := by simpa using k3
        have HQ := Hid_of (HNO.out (by rw [k1]; decide))
        rw [k1] at HQ ⊢
        clear HNO hx hwo hwi h0 h1 h2 k1 k3 hp hsv hxs hks hwd hl8
        generalize Mb.pl ds[k].s.l y = pv at *
        generalize ds[k] = z at *
        cases q
        · clear HDD
          go_enter Try.func34, Try.ntmps34
          go_wp2_with fail
          refine hk.mono ?_
          rintro e w1 ⟨rfl, hw1⟩
          subst w1
          go_wp2_with fail
          refine hk.mono ?_
          rintro e w1 ⟨rfl, hw1⟩
          subst w1
          go_wp2_with fail
          refine hk.mono ?_
          rintro e w1 ⟨rfl, hw1⟩
          subst w1
          clear hk
          go_wp2_with fail
          refine hat.mono ?_
          rintro e w1 ⟨rfl, hw1⟩
          subst w1
          clear hat
          go_wp2
          go_ret2
          exact HQ.out
        · obtain ⟨d5, d5'⟩ := HDD.out rfl
          clear HDD
          go_enter Try.func34, Try.ntmps34
          go_wp2_with fail
          refine hk.mono ?_
          rintro e w1 ⟨rfl, hw1⟩
          subst w1
          go_wp2_with fail
          refine hk.mono ?_
          rintro e w1 ⟨rfl, hw1⟩
          subst w1
          go_wp2_with fail
          refine hk.mono ?_
          rintro e w1 ⟨rfl, hw1⟩
          subst w1
          clear hk
          go_wp2_with fail
          refine hat.mono ?_
          rintro e w1 ⟨rfl, hw1⟩
          subst w1
          clear hat
          go_wp2
          go_ret2
          exact HQ.out
      · have d6 : (ds[k].s.st == 3) = false := by simpa using k3
        obtain ⟨j, rfl⟩ := Int.eq_ofNat_of_zero_le h0
        have hj : j < ds[k].s.l.length := by omega
        obtain ⟨a1, c1', w1, HR1, ho1, hb1⟩ := copyE w (some ⟨g, off, none⟩) cv HX.out hn
        obtain ⟨a2, c2', w2, hr2, ho2, hb2⟩ := copyA w1 ds[k].a ds[k].c ds[k].s.l (hxs.at'.keep hb1) (by omega)
        have HR2 := Hid_of hr2
        obtain ⟨g2, cap2, hv2, hg2a, hg2b, hcell2, hfz2, hset2⟩ := ho2.set1 j hj 0 (by decide)
        simp only [Value.slice.injEq] at hv2
        obtain ⟨rfl, -, rfl⟩ := hv2
        have ho3 := hset2 y (.int .i64 y) rfl
        rw [show j * il.n + 0 = j by simp [il]] at hcell2 ho3
        obtain ⟨g1, cap1, hv1, hg1a, hg1b, -⟩ := ho1.set1 k hk2 5 (by decide)
        simp only [Value.slice.injEq] at hv1
        obtain ⟨rfl, -, rfl⟩ := hv1
        have hne : g1 ≠ g2 := by omega
        have ho1' : OwnL stl 34 (w2.setCell ⟨g2, j, none⟩ (.int .i64 y)) w.heap.size (.slice (some ⟨g1, 0, none⟩) ds.length c1') ds := (ho1.keep hb2).keepBut fun q _ hq => heap_setCell_other w2 ⟨g2, j, none⟩ q _ (fun e => hne (by
          have hq : some g1 = some q := hq
          have e : q = g2 := e
          simp only [Option.some.injEq] at hq
          omega))
        obtain ⟨g1', cap1', hv1, -, -, hcell1, hfz1, hset1⟩ := ho1'.set1 k hk2 5 (by decide)
        simp only [Value.slice.injEq, Option.some.injEq, Addr.mk.injEq] at hv1
        obtain ⟨⟨rfl, -⟩, -⟩ := hv1
        have ho4 := hset1 { ds[k] with s := { ds[k].s with l := ds[k].s.l.set j y }, a := some ⟨g2, 0, none⟩, c := c2' } (.slice (some ⟨g2, 0, none⟩) ds[k].s.l.length c2') (by simp [stl])
        have hb12 : Below w.heap.size w w2 := bel_up hb1 hb2 (Nat.le_refl _)
        have hb3 : Below w.heap.size w (w2.setCell ⟨g2, j, none⟩ (.int .i64 y)) := hb12.setCell (p := ⟨g2, j, none⟩) (Nat.le_trans hb1.size hg2a) _
        have hb4 : Below w.heap.size w ((w2.setCell ⟨g2, j, none⟩ (.int .i64 y)).setCell ⟨g1, k * 6 + 5, none⟩ (.slice (some ⟨g2, 0, none⟩) ds[k].s.l.length c2')) := hb3.setCell (p := ⟨g1, k * 6 + 5, none⟩) hg1a _
        have HL : Hid (DOut w K (fun u => .tuple #[u, .int .i64 0]) (Sm.mm (ds.map (·.s)) k j y) (.returned (.tuple #[.slice (some ⟨g1, 0, none⟩) ds.length c1', .int .i64 0])) ((w2.setCell ⟨g2, j, none⟩ (.int .i64 y)).setCell ⟨g1, k * 6 + 5, none⟩ (.slice (some ⟨g2, 0, none⟩) ds[k].s.l.length c2'))) := by
          refine Hid_of ⟨_, rfl, hb4, _, HD.out.setrow hb4 ho4 (fun e he => ?_) (fun i hi => ?_), ?_⟩
          · rcases List.mem_or_eq_of_mem_set he with he | rfl
            · exact .inl ⟨e, he, rfl, rfl, rfl⟩
            · right
              have ho5 : OwnL il 3 ((w2.setCell ⟨g2, j, none⟩ (.int .i64 y)).setCell ⟨g1, k * 6 + 5, none⟩ (.slice (some ⟨g2, 0, none⟩) ds[k].s.l.length c2')) w1.heap.size (.slice (some ⟨g2, 0, none⟩) ds[k].s.l.length c2') (ds[k].s.l.set j y) := ho3.keepBut fun q _ hq => heap_setCell_other _ ⟨g1, k * 6 + 5, none⟩ q _ (fun e => hne (by
                have hq : some g2 = some q := hq
                have e : q = g1 := e
                simp only [Option.some.injEq] at hq
                omega))
              obtain ⟨a5, c5, hv5, hx5, hk5⟩ := ho5.at
              simp only [Value.slice.injEq] at hv5
              obtain ⟨rfl, -, rfl⟩ := hv5
              exact ⟨hx5, fun q hq => ⟨Nat.le_trans hb1.size (hk5 q hq).1, (hk5 q hq).2.2⟩⟩
          · have hi2 : i < ds.length := by simpa using hi
            rw [List.getElem_set]
            split
            · rename_i e; subst e; exact HD.out.id _ hk2
            · exact HD.out.id i hi2
          · rw [set_map hk2]
            unfold Sm.mm
            rw [k1, if_pos rfl]
            simp only [Int.toNat_natCast]
            rw [Sm.mv_eq (by simpa using hk2)]
            simp
        obtain ⟨g3, o3, e3, z0, z1, z2, z3, z4, z5⟩ := ((HX.out.keep hb1).at'.getE k hk2)
        simp only [Option.some.injEq, Addr.mk.injEq] at e3
        obtain ⟨rfl, rfl, -⟩ := e3
        have fz2 := hfz2 j
        have fz1 := hfz1 (k * 6 + 5)
        simp only [il] at hcell2
        simp only [stl] at hcell1
        have hji : (j : Int) < (ds[k].s.l.length : Int) := by omega
        rw [k1]
        clear HNO hx hwo hwi h0 h1 h2 k1 k3 hp hsv hxs hks hwd hl8 ho1 ho2 ho3 ho4 ho1' hset1 hset2 hfz1 hfz2 hb1 hb2 hb12 hb3 hb4 hg1a hg1b hg2a hg2b hne HX hr2
        generalize Mb.pl ds[k].s.l y = pv at *
        generalize ds[k] = z at *
        cases q
        · clear HDD
          go_enter Try.func34, Try.ntmps34
          go_wp2_with fail
          refine hk.mono ?_
          rintro e w1 ⟨rfl, hw1⟩
          subst w1
          go_wp2_with fail
          refine hk.mono ?_
          rintro e w1 ⟨rfl, hw1⟩
          subst w1
          go_wp2_with fail
          refine hk.mono ?_
          rintro e w1 ⟨rfl, hw1⟩
          subst w1
          clear hk
          go_wp2_with fail
          refine hat.mono ?_
          rintro e w1 ⟨rfl, hw1⟩
          subst w1
          clear hat
          go_wp2_with (first | (at_builtin; refine wpList_append_known rfl _ _ 27 rfl _ _ rfl rfl _ _ (HR1.out _) ?_) | (at_builtin; refine wpList_append_known rfl _ _ 30 rfl _ _ rfl rfl _ _ (HR2.out _) ?_))
          go_ret2
          exact HL.out
        · obtain ⟨d5, d5'⟩ := HDD.out rfl
          clear HDD
          go_enter Try.func34, Try.ntmps34
          go_wp2_with fail
          refine hk.mono ?_
          rintro e w1 ⟨rfl, hw1⟩
          subst w1
          go_wp2_with fail
          refine hk.mono ?_
          rintro e w1 ⟨rfl, hw1⟩
          subst w1
          go_wp2_with fail
          refine hk.mono ?_
          rintro e w1 ⟨rfl, hw1⟩
          subst w1
          clear hk
          go_wp2_with fail
          refine hat.mono ?_
          rintro e w1 ⟨rfl, hw1⟩
          subst w1
          clear hat
          go_wp2_with (first | (at_builtin; refine wpList_append_known rfl _ _ 27 rfl _ _ rfl rfl _ _ (HR1.out _) ?_) | (at_builtin; refine wpList_append_known rfl _ _ 30 rfl _ _ rfl rfl _ _ (HR2.out _) ?_))
          go_ret2
          exact HL.out
/-- What the document's Get leaves. -/
def RGet (w : World) (K : Nat → Prop) (m : List S) (i : Int) (e : Ending) (w' : World) : Prop :=
  Below w.heap.size w w' ∧ ((Sm.at' m i = none ∧ e = .returned (.tuple #[eV e0, .bool false])) ∨ (∃ s a c, Sm.at' m i = some s ∧ e = .returned (.tuple #[eV ⟨i, s, a, c⟩, .bool true]) ∧ AtL il w' a s.l ∧ ∀ k, blk a k → K k))
theorem f13_res : Try.f13.results = #[.cell 4 34, .tmp 5] := rfl
set_option maxRecDepth 100000 in
set_option maxHeartbeats 1000000 in
theorem refGet_any (h : DM w K v m) (i : Int) : Calls Try.prog 13 #[v, .int .i64 i] w (RGet w K m i) := by
  obtain ⟨ds, hD, rfl⟩ := h
  have hid := hD.id
  have hsv := hD.sv
  obtain ⟨⟨av, cv, rfl, hx, -⟩, -, -⟩ := hD
  have hb1 := bel1 w (eO e0)
  have HR := Hid_of (heap_alloc_last w (eO e0))
  have hk := known_any av ds.length cv i (w.alloc (eO e0))
  by_cases hi : 0 ≤ i ∧ i < (ds.length : Int)
  · rw [decide_eq_true hi] at hk
    obtain ⟨k, rfl⟩ := Int.eq_ofNat_of_zero_le hi.1
    have hk2 : k < ds.length := by omega
    have hki : (k : Int) < (ds.length : Int) := hi.2
    have HAT : Hid (Sm.at' (ds.map (·.s)) k = some ds[k].s) := Hid_of (by
      obtain ⟨q, e⟩ := Sm.at_in (m := ds.map (·.s)) (i := (k : Int)) (by omega) (by simp; omega)
      rw [e]; simp)
    obtain ⟨hxs, hks⟩ := hsv _ (List.getElem_mem hk2)
    obtain ⟨g, off, rfl, c0, c1, c2, c3, c4, c5⟩ := (hx.at'.keep hb1).getE k hk2
    have hidk := hid k hk2
    obtain ⟨⟨y0, y1, y2, y3, y4, y5⟩, yf⟩ := row_cells HR.out
    have HROW := Hid_of (heap_alloc_last w (eO ds[k]))
    have HQ : Hid (RGet w K (ds.map (·.s)) k (.returned (.tuple #[eV ds[k], .bool true])) (w.alloc (eO ds[k]))) := by
      refine Hid_of ⟨bel1 _ _, .inr ⟨ds[k].s, ds[k].a, ds[k].c, HAT.out, ?_, hxs.at'.keep (bel1 _ _), hks⟩⟩
      simp only [eV, hidk]
    clear hx hsv hid hxs hks hb1 HAT hidk
    generalize ds[k] = z at *
    go_enter Try.func13, Try.ntmps13
    go_wp2_with fail
    refine hk.mono ?_
    rintro e w1 ⟨rfl, hw1⟩
    subst w1
    clear hk
    go_wp2
    refine bodyPost_ret (v := .tuple #[eV z, .bool true]) ?_ rfl HQ.out
    exact res34_2 f13_res _ _ w.heap.size _ _ _ _ _ _ rfl HROW.out
  · rw [decide_eq_false hi] at hk
    have HQ : Hid (RGet w K (ds.map (·.s)) i (.returned (.tuple #[eV e0, .bool false])) (w.alloc (eO e0))) := Hid_of ⟨hb1, .inl ⟨Sm.at_out (by simp; omega), rfl⟩⟩
    clear hx hsv hid hb1 hi
    go_enter Try.func13, Try.ntmps13
    go_wp2_with fail
    refine hk.mono ?_
    rintro e w1 ⟨rfl, hw1⟩
    subst w1
    clear hk
    go_wp2
    refine bodyPost_ret (v := .tuple #[eV e0, .bool false]) ?_ rfl HQ.out
    exact res34_2 f13_res _ _ w.heap.size _ _ _ _ _ _ rfl HR.out
end

end Go.Proofs.Ytgcfpihfoekllaa
