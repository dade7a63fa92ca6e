/- The document's stripes: Begin. -/
import Derived.Test.YtgcfpihfoekllaaFA

namespace Go.Proofs.Ytgcfpihfoekllaa

open Go.RowKit

set_option linter.unusedVariables false

open Sm (S)

section
variable {w w' w'' : World} {K K' : Nat → Prop} {v u : Value} {ds : List E} {m : List S}
theorem DX.setrow {W2 : World} (h : DX w K v ds) (hb : Below w.heap.size w W2) {v' : Value} {ds' : List E} (ho : OwnL stl 34 W2 w.heap.size v' ds') (hs : ∀ e ∈ ds', (∃ x ∈ ds, e.a = x.a ∧ e.c = x.c ∧ e.s.l = x.s.l) ∨ (XL il W2 e.a e.c e.s.l ∧ ∀ k, blk e.a k → w.heap.size ≤ k ∧ k < W2.heap.size)) (hid : ∀ j (h : j < ds'.length), ds'[j].id = j) : DX W2 (Kn K w W2) v' ds' := by
  obtain ⟨a, cap, hv, hx, hk⟩ := ho.at
  refine ⟨⟨a, cap, hv, hx, fun k hk' => .inr ⟨(hk k hk').1, (hk k hk').2.2⟩⟩, fun e he => ?_, hid⟩
  rcases hs e he with ⟨x, hx', e1, e2, e3⟩ | ⟨h1, h2⟩
  · rw [e1, e2, e3]
    exact ⟨(h.sv x hx').1.keep hb, fun k hk' => .inl ((h.sv x hx').2 k hk')⟩
  · exact ⟨h1, fun k hk' => .inr (h2 k hk')⟩
theorem copyE (w : World) (a : Option Addr) (c : Nat) (hx : XL stl w a c ds) (hl : ds.length ≤ 4096) : ∃ a' c' w', Hid (∀ ty, (Builtin.append_ #[27, 27] ty #[.slice none 0 0, .slice a ds.length c]).run Try.prog w = .ok (.slice a' ds.length c') w') ∧ OwnL stl 34 w' w.heap.size (.slice a' ds.length c') ds ∧ Below w.heap.size w w' := by
  obtain ⟨a', c', w', h1, h2, h3⟩ := run_copyL tiE w 0 a c ds hx (by omega)
  exact ⟨a', c', w', Hid_of fun ty => (append_ty _ _ _ ty 0).trans h1, h2, h3⟩
theorem state_any (h : DX w K v ds) (hn : ds.length ≤ 4096) (j : Nat) (hj : j < ds.length) (x : Int) : Calls Try.prog 67 #[v, .int .i64 j, .int .i64 x] w fun e w' => ∃ u, e = .returned u ∧ Below w.heap.size w w' ∧ DX w' (Kn K w w') u (ds.set j { ds[j] with s := { ds[j].s with st := x } }) := by
  have HD := Hid_of h
  obtain ⟨⟨a, cap, rfl, hx, -⟩, -, -⟩ := h
  obtain ⟨a1, c1, w1, HR, ho, hb⟩ := copyE w a cap hx hn
  obtain ⟨g, c2, hv, hgl, hg2, hcell, hfz, hset⟩ := ho.set1 j hj 1 (by decide)
  simp only [Value.slice.injEq] at hv
  obtain ⟨rfl, -, rfl⟩ := hv
  have ho2 := hset { ds[j] with s := { ds[j].s with st := x } } (.int .i64 x) rfl
  have hb2 : Below w.heap.size w (w1.setCell ⟨g, j * 6 + 1, none⟩ (.int .i64 x)) := hb.setCell (p := ⟨g, j * 6 + 1, none⟩) hgl _
  have HQ : Hid (DX (w1.setCell ⟨g, j * 6 + 1, none⟩ (.int .i64 x)) (Kn K w (w1.setCell ⟨g, j * 6 + 1, none⟩ (.int .i64 x))) (.slice (some ⟨g, 0, none⟩) ds.length c1) (ds.set j { ds[j] with s := { ds[j].s with st := x } })) := by
    refine Hid_of (HD.out.setrow hb2 ho2 (fun e he => .inl ?_) (fun i hi => ?_))
    · rcases List.mem_or_eq_of_mem_set he with he | rfl
      · exact ⟨e, he, rfl, rfl, rfl⟩
      · exact ⟨ds[j], List.getElem_mem hj, rfl, rfl, rfl⟩
    · have hi2 : i < ds.length := by simpa using hi
      rw [List.getElem_set]
      split
      · rename_i e; subst e; exact HD.out.id _ hj
      · exact HD.out.id i hi2
  have HB2 := Hid_of hb2
  have hf1 := hfz (j * 6 + 1)
  simp only [stl] at hcell
  have hji : (j : Int) < (ds.length : Int) := by omega
  clear hx ho hb hset ho2 hb2 hfz
  go_enter Try.func67, Try.ntmps67
  go_wp2_with (at_builtin; refine wpList_append_known rfl _ _ 27 rfl _ _ rfl rfl _ _ (HR.out _) ?_)
  go_ret
  exact ⟨.slice (some ⟨g, 0, none⟩) ds.length c1, rfl, HB2.out, HQ.out⟩
set_option maxRecDepth 100000 in
set_option maxHeartbeats 2000000 in
theorem refBegin_any (h : DM w K v m) (hG : Sm.G m) (ow ep ln : Int) (a : Option Addr) (c : Nat) (l : List Int) (hep : ep ≤ 9223372036854775807) (hl : l.length ≤ 1000000) (ha : AtL il w a l) : Calls Try.prog 30 #[v, .int .i64 ow, .int .i64 ep, .int .i64 ln, .slice a l.length c] w (DOut w K (fun u => .tuple #[u, .int .i64 (Sm.bv m ⟨1, ow, ep, ln, l⟩), .int .i64 (Sm.bc m ⟨1, ow, ep, ln, l⟩)]) (Sm.bm m ⟨1, ow, ep, ln, l⟩)) := by
  have HM := Hid_of h
  obtain ⟨ds, hD, rfl⟩ := h
  have hn := hG.ln
  rw [List.length_map] at hn
  have HD := Hid_of hD
  have hid := hD.id
  obtain ⟨⟨av, cv, rfl, hx, -⟩, -, -⟩ := hD
  obtain ⟨a1, c1, w1, hr1, ho1, hb1⟩ := copyA w a c l ha hl
  obtain ⟨a1', c1', hv1, hx1, hk1⟩ := ho1.at
  simp only [Value.slice.injEq] at hv1
  obtain ⟨rfl, -, rfl⟩ := hv1
  have HR1 := Hid_of hr1
  have hb2 := bel1 w1 (.cells #[.int .i64 ds.length, .int .i64 1, .int .i64 ow, .int .i64 ep, .int .i64 ln, .slice a1 l.length c1] 34)
  have hr2 := heap_alloc_last w1 (.cells #[.int .i64 ds.length, .int .i64 1, .int .i64 ow, .int .i64 ep, .int .i64 ln, .slice a1 l.length c1] 34)
  have hmy := may_any ⟨ds.length, ⟨1, ow, ep, ln, l⟩, a1, c1⟩ (w1.alloc (.cells #[.int .i64 ds.length, .int .i64 1, .int .i64 ow, .int .i64 ep, .int .i64 ln, .slice a1 l.length c1] 34)) hep hl hx1.le (hx1.at'.keep hb2)
  obtain ⟨W2, HW2⟩ : ∃ W2, Hid (w1.alloc (.cells #[.int .i64 ds.length, .int .i64 1, .int .i64 ow, .int .i64 ep, .int .i64 ln, .slice a1 l.length c1] 34) = W2) := ⟨_, rfl⟩
  rw [HW2.out] at hb2 hr2 hmy
  obtain ⟨B, HB⟩ : ∃ B, Hid (w1.heap.size = B) := ⟨_, rfl⟩
  rw [HB.out] at hr2
  have HB2 := Hid_of (bel_up hb1 hb2 (Nat.le_refl _))
  have HB12 := Hid_of hb2
  have HRW2 := Hid_of hr2
  have HX1 := Hid_of hx1
  have HK1 := Hid_of hk1
  have HLT : Hid (∀ k, blk a1 k → k < W2.heap.size) := Hid_of fun k hk => Nat.lt_of_lt_of_le (hk1 k hk).2.2 hb2.size
  obtain ⟨s, hs⟩ : ∃ s : S, s = ⟨1, ow, ep, ln, l⟩ := ⟨_, rfl⟩
  have HNO : Hid (¬ Sm.bc (ds.map (·.s)) s = 0 → ∀ w1, Below w.heap.size w w1 → DOut w K (fun u => .tuple #[u, .int .i64 (Sm.bv (ds.map (·.s)) s), .int .i64 (Sm.bc (ds.map (·.s)) s)]) (Sm.bm (ds.map (·.s)) s) (.returned (.tuple #[.slice av ds.length cv, .int .i64 0, .int .i64 (Sm.bc (ds.map (·.s)) s)])) w1) := Hid_of fun e w1 hb => by
    have e1 : Sm.bm (ds.map (·.s)) s = ds.map (·.s) := by unfold Sm.bm; rw [if_neg e]
    have e2 : Sm.bv (ds.map (·.s)) s = 0 := by unfold Sm.bv; rw [if_neg e]
    rw [e1, e2]
    exact DOut.same HM.out _ hb
  rw [← hs]
  have HG := Hid_of hG
  have hmb : Sm.mayB (E.s ⟨ds.length, ⟨1, ow, ep, ln, l⟩, a1, c1⟩) = Sm.mayB s := by rw [hs]
  rw [hmb] at hmy
  obtain ⟨⟨k0, k1, k2, k3, k4, k5⟩, _⟩ := row_cells (y := ⟨ds.length, ⟨1, ow, ep, ln, l⟩, a1, c1⟩) HRW2.out
  clear ha ho1 hx1 hk1 hb1 hb2 hr2 hr1 hG hmb
  rcases Sm.bc_cases (ds.map (·.s)) s with ⟨q1, q2⟩ | ⟨q0, q1, q2⟩ | ⟨q0, q1, q2, q3⟩
  · rw [Sm.mayB_no.2 q1] at hmy
    have HQ := Hid_of (HNO.out (by rw [q2]; decide))
    rw [q2] at HQ ⊢
    clear q1 q2 hs HNO k0 k1 k2 k3 k4 k5 hid hx
    go_enter Try.func30, Try.ntmps30
    go_wp2_with (at_builtin; refine wpList_append_known rfl _ _ 30 rfl _ _ rfl rfl _ _ (HR1.out _) ?_)
    rw [HW2.out]
    clear HW2
    refine hmy.mono ?_
    rintro e w3 ⟨rfl, hb3⟩
    have HQ2 := Hid_of (HQ.out _ (bel_up HB2.out hb3 (Nat.le_refl _)))
    clear hmy hb3 HQ
    go_wp2
    go_ret3
    exact HQ2.out
  · rw [Sm.mayB_eq.2 q0] at hmy
    have HQ := Hid_of (HNO.out (by rw [q2]; decide))
    rw [q2] at HQ ⊢
    have HLL : Hid (∀ W : World, Below w.heap.size w W → Calls Try.prog 17 #[.slice av ds.length cv, .int .i64 3] W (IdsOut W (Sm.ofSt (ds.map (·.s)) 3))) := Hid_of fun W hW => refList_any (HM.out.keep hW) (by rw [List.length_map]; exact hn) 3
    have hlv := Sm.live_ids (ds.map (·.s))
    rw [List.length_map] at hlv q1
    have hw : IntKind.i64.wrap ((ds.length : Int) - (Sm.ofSt (ds.map (·.s)) 3).length) = (ds.length : Int) - (Sm.ofSt (ds.map (·.s)) 3).length := by rw [IntKind.wrap_i64]; omega
    obtain ⟨dd, hdd⟩ : ∃ dd, decide ((256 : Int) ≤ (ds.length : Int) - (Sm.ofSt (ds.map (·.s)) 3).length) = dd := ⟨_, rfl⟩
    have HD4 : Hid (dd = false → decide ((4096 : Int) ≤ (ds.length : Int)) = true) := Hid_of fun e => by
      rw [← hdd] at e
      have e := of_decide_eq_false e
      exact decide_eq_true (by omega)
    clear q0 q1 q2 hs HNO hid hx hlv HX1 HK1 HLT k0 k1 k2 k3 k4 k5
    obtain ⟨⟨k0, k1, k2, k3, k4, k5⟩, _⟩ := row_cells (y := ⟨ds.length, ⟨1, ow, ep, ln, l⟩, a1, c1⟩) HRW2.out
    go_enter Try.func30, Try.ntmps30
    go_wp2_with (at_builtin; refine wpList_append_known rfl _ _ 30 rfl _ _ rfl rfl _ _ (HR1.out _) ?_)
    rw [HW2.out]
    clear HW2
    refine hmy.mono ?_
    rintro e w3 ⟨rfl, hb3⟩
    have hls := HLL.out w3 (bel_up HB2.out hb3 (Nat.le_refl _))
    have HB3 := Hid_of (bel_up HB2.out hb3 (Nat.le_refl _))
    clear hmy hb3 HLL k0 k1 k2 k3 k4 k5
    go_wp2_with fail
    refine hls.mono ?_
    rintro e w4 ⟨u4, rfl, ho4, hb4⟩
    obtain ⟨a4, c4, rfl, _, _⟩ := ho4.at
    have HQ2 := Hid_of (HQ.out _ (bel_up HB3.out hb4 (Nat.le_refl _)))
    clear hls ho4 hb4 HB3 HQ HB2 HB12 HRW2
    cases dd with
    | true =>
      clear HD4
      go_wp2
      go_ret3
      exact HQ2.out
    | false =>
      have d4 := HD4.out rfl
      clear HD4
      go_wp2
      go_ret3
      exact HQ2.out
  · rw [Sm.mayB_eq.2 q0] at hmy
    have HLL : Hid (∀ W : World, Below w.heap.size w W → Calls Try.prog 17 #[.slice av ds.length cv, .int .i64 3] W (IdsOut W (Sm.ofSt (ds.map (·.s)) 3))) := Hid_of fun W hW => refList_any (HM.out.keep hW) (by rw [List.length_map]; exact hn) 3
    have hlv := Sm.live_ids (ds.map (·.s))
    rw [List.length_map] at hlv q2
    have hw : IntKind.i64.wrap ((ds.length : Int) - (Sm.ofSt (ds.map (·.s)) 3).length) = (ds.length : Int) - (Sm.ofSt (ds.map (·.s)) 3).length := by rw [IntKind.wrap_i64]; omega
    have d1 : decide ((256 : Int) ≤ (ds.length : Int) - (Sm.ofSt (ds.map (·.s)) 3).length) = false := decide_eq_false (by omega)
    have d2 : decide ((4096 : Int) ≤ (ds.length : Int)) = false := decide_eq_false (by omega)
    have hbv : Sm.bv (ds.map (·.s)) s = ds.length := by unfold Sm.bv; rw [q3, if_pos rfl, List.length_map]
    have HBM : Hid (Sm.bm (ds.map (·.s)) s = (ds ++ [(⟨ds.length, ⟨1, ow, ep, ln, l⟩, a1, c1⟩ : E)]).map (·.s)) := Hid_of (by unfold Sm.bm; rw [q3, if_pos rfl, List.map_append, hs]; rfl)
    have HID := Hid_of hid
    have HXX := Hid_of hx
    rw [hbv, q3]
    clear q0 q1 q2 q3 hs HNO hid hx hlv k0 k1 k2 k3 k4 k5 HG hbv
    obtain ⟨⟨k0, k1, k2, k3, k4, k5⟩, _⟩ := row_cells (y := ⟨ds.length, ⟨1, ow, ep, ln, l⟩, a1, c1⟩) HRW2.out
    go_enter Try.func30, Try.ntmps30
    go_wp2_with (at_builtin; refine wpList_append_known rfl _ _ 30 rfl _ _ rfl rfl _ _ (HR1.out _) ?_)
    rw [HW2.out, HB.out]
    clear HW2
    refine hmy.mono ?_
    rintro e w3 ⟨rfl, hb3⟩
    have hls := HLL.out w3 (bel_up HB2.out hb3 (Nat.le_refl _))
    have HB3 := Hid_of (bel_up HB2.out hb3 (Nat.le_refl _))
    have HB23 := Hid_of hb3
    clear hmy hb3 HLL k0 k1 k2 k3 k4 k5
    go_wp2_with fail
    refine hls.mono ?_
    rintro e W3 ⟨u4, rfl, ho4, hb4⟩
    obtain ⟨a4, c4, rfl, _, _⟩ := ho4.at
    have HB4 := Hid_of (bel_up HB3.out hb4 (Nat.le_refl _))
    have HB24 : Hid (Below W2.heap.size W2 W3) := Hid_of (bel_up HB23.out hb4 (Nat.le_refl _))
    clear hls ho4 hb4 HB3 HB23
    have HS : Hid (∀ wq, Below W3.heap.size W3 wq → wq.cell? ⟨B, 0, none⟩ = some (.int .i64 ds.length) ∧ wq.cell? ⟨B, 0 + 1, none⟩ = some (.int .i64 1) ∧ wq.cell? ⟨B, 0 + 2, none⟩ = some (.int .i64 ow) ∧ wq.cell? ⟨B, 0 + 3, none⟩ = some (.int .i64 ep) ∧ wq.cell? ⟨B, 0 + 4, none⟩ = some (.int .i64 ln) ∧ wq.cell? ⟨B, 0 + 5, none⟩ = some (.slice a1 l.length c1)) := Hid_of fun wq hq => (row_cells (y := ⟨ds.length, ⟨1, ow, ep, ln, l⟩, a1, c1⟩) (bel_row HRW2.out (bel_up HB24.out hq (Nat.le_refl _)))).1
    have HA1 : Hid (∀ W : World, Below W3.heap.size W3 W → ∃ a7 c7 w7, Hid (∀ ty, (Builtin.append_ #[27, 27] ty #[.slice none 0 0, .slice av ds.length cv]).run Try.prog W = .ok (.slice a7 ds.length c7) w7) ∧ OwnL stl 34 w7 W3.heap.size (.slice a7 ds.length c7) ds ∧ Below W.heap.size W w7 ∧ Below W3.heap.size W3 w7) := Hid_of fun W hW => by
      obtain ⟨a7, c7, w7, q1, q2, q3⟩ := copyE W av cv (HXX.out.keep (bel_up HB4.out hW (Nat.le_refl _))) hn
      exact ⟨a7, c7, w7, q1, q2.low hW.size, q3, bel_up hW q3 (Nat.le_refl _)⟩
    have HA4 : Hid (∀ (W : World) (a7 : Option Addr) (c7 n6 : Nat), Below W3.heap.size W3 W → OwnL stl 34 W W3.heap.size (.slice a7 ds.length c7) ds → W.heap[n6]? = some (.cells #[.int .i64 ds.length, .int .i64 1, .int .i64 ow, .int .i64 ep, .int .i64 ln, .slice a1 l.length c1] 34 (0, 0)) → ∃ a8 c8 w8, Hid (∀ ty, (Builtin.append_ #[27, 27] ty #[.slice a7 ds.length c7, .slice (some ⟨n6, 0, none⟩) 1 1]).run Try.prog W = .ok (.slice a8 (ds.length + 1) c8) w8) ∧ Below W3.heap.size W3 w8 ∧ Hid (DOut w K (fun u => .tuple #[u, .int .i64 ds.length, .int .i64 0]) (Sm.bm (ds.map (·.s)) s) (.returned (.tuple #[.slice a8 (ds.length + 1) c8, .int .i64 ds.length, .int .i64 0])) w8)) := Hid_of fun W a7 c7 n6 hW ho hr => by
      obtain ⟨a8, c8, w8, q1, q2, q3⟩ := run_appL_ty tiE W W3.heap.size (.slice a7 ds.length c7) ds [⟨ds.length, ⟨1, ow, ep, ln, l⟩, a1, c1⟩] n6 0 1 1 ho (atL_one hr) rfl hW.size (by simp; omega)
      have hb8 : Below W3.heap.size W3 w8 := hW.trans (q3.below (fun k hk => (ho.lt hk).1) hW.size)
      have hbw := bel_up HB4.out hb8 (Nat.le_refl _)
      refine ⟨a8, c8, w8, q1, hb8, .slice a8 (ds.length + 1) c8, rfl, hbw, _, HD.out.setrow hbw (q2.low HB4.out.size) (fun e he => ?_) (fun j hj => ?_), HBM.out.symm⟩
      · rcases List.mem_append.1 he with he | he
        · exact .inl ⟨e, he, rfl, rfl, rfl⟩
        · simp only [List.mem_singleton] at he
          subst he
          refine .inr ⟨(HX1.out.keep HB12.out).keep (bel_up HB24.out hb8 (Nat.le_refl _)), fun k hk => ⟨(HK1.out k hk).1, Nat.lt_of_lt_of_le (HLT.out k hk) (bel_up HB24.out hb8 (Nat.le_refl _)).size⟩⟩
      · rw [List.getElem_append]
        split
        · exact HID.out j _
        · rw [List.length_append, List.length_singleton] at hj
          have : j = ds.length := by omega
          subst this
          simp
    go_upto_region 6 with fail
    clear HB4 HB24 HB2 HB12 HRW2 HX1 HK1 HLT HBM HID HXX HD HM d1 d2 hw
    refine wp_region_held_drew (S := fun wq => Below (W3).heap.size (W3) wq) (by kernel_rfl) (Below.drew (Below.refl _ _)) (fun hHeld => ?_)
    obtain ⟨wdr, hwdr⟩ : ∃ wd, W3.drew = wd := ⟨_, rfl⟩
    have hBwd : Below W3.heap.size W3 wdr := by rw [← hwdr]; exact Below.drew (Below.refl _ _)
    rw [hwdr] at hHeld ⊢
    clear hwdr
    refine Tm 0 ?p0r ?v0r hHeld ?r0r
    refine Tk 2 ?p2r ?v2r ?y2r hHeld ?r2r
    case y2r => intro wq hq; obtain ⟨z0, z1, z2, z3, z4, z5⟩ := HS.out wq hq; go_simp; try with_reducible rfl
    refine Tm 5 ?p5r ?v5r hHeld ?r5r
    refine Tk 6 ?p6r ?v6r ?y6r hHeld ?r6r
    case y6r => intro wq hq; obtain ⟨z0, z1, z2, z3, z4, z5⟩ := HS.out wq hq; go_simp; try with_reducible rfl
    simp only [Act.put, Pa, Pb, Pc]
    refine Rn [1, 3] (Rc ?p1r ?s1r (Rc ?p3r ?s3r AllReadyH.nil))
    case s1r =>
      intro K hK
      obtain ⟨a7, c7, w7, HR7, ho7, hb7', hb7⟩ := HA1.out _ hHeld
      refine step_append_known (by rfl) _ _ 27 (by rfl) _ _ (by rfl) (by rfl) _ _ (HR7.out _) ?_
      refine hK.out _ _ hb7 (fun hHeld => ?_)
      clear hK K
      refine Rd 3 ?p3r_1 ?s3r_1
      intro K hK
      go_simp
      obtain ⟨w6, hw6⟩ : ∃ w6, w7.alloc (.cells #[.int .i64 ds.length, .int .i64 1, .int .i64 ow, .int .i64 ep, .int .i64 ln, .slice a1 l.length c1] 34) = w6 := ⟨_, rfl⟩
      have hb6' : Below w7.heap.size w7 w6 := by rw [← hw6]; exact bel1 _ _
      have hb6 := bel_up hHeld hb6' (Nat.le_refl _)
      have hr6 : w6.heap[w7.heap.size]? = some (.cells #[.int .i64 ds.length, .int .i64 1, .int .i64 ow, .int .i64 ep, .int .i64 ln, .slice a1 l.length c1] 34 (0, 0)) := by rw [← hw6]; exact heap_alloc_last w7 _
      obtain ⟨n6, hn6⟩ : ∃ n6, w7.heap.size = n6 := ⟨_, rfl⟩
      rw [hw6, hn6]
      rw [hn6] at hr6
      clear hw6 hn6
      have ho7 := ho7.keep hb6'
      refine hK.out _ _ hb6 (fun hHeld => ?_)
      clear hK K
      refine Rd 4 ?p4r_1_3 ?s4r_1_3
      intro K hK
      obtain ⟨a8, c8, w8, HR8, hb8, HQ8⟩ := HA4.out _ _ _ _ hHeld ho7 hr6
      refine step_append_known (by rfl) _ _ 27 (by rfl) _ _ (by rfl) (by rfl) _ _ (HR8.out _) ?_
      refine hK.out _ _ hb8 (fun hHeld => ?_)
      clear hK K
      refine Tm 7 ?p7r_1_3_4 ?v7r_1_3_4 hHeld ?r7r_1_3_4
      refine Tm 8 ?p8r_1_3_4 ?v8r_1_3_4 hHeld ?r8r_1_3_4
      refine Tm 9 ?p9r_1_3_4 ?v9r_1_3_4 hHeld ?r9r_1_3_4
      simp only [Act.put, Pa, Pb, Pc]
      refine wpAnyH_done (by kernel_rfl) ?_ _
      clear hHeld hb8 HA1 HA4 HS
      go_wp2
      go_ret3
      exact HQ8.out
    case s3r =>
      intro K hK
      go_simp
      obtain ⟨w6, hw6⟩ : ∃ w6, wdr.alloc (.cells #[.int .i64 ds.length, .int .i64 1, .int .i64 ow, .int .i64 ep, .int .i64 ln, .slice a1 l.length c1] 34) = w6 := ⟨_, rfl⟩
      have hb6' : Below wdr.heap.size wdr w6 := by rw [← hw6]; exact bel1 _ _
      have hb6 := bel_up hHeld hb6' (Nat.le_refl _)
      have hr6 : w6.heap[wdr.heap.size]? = some (.cells #[.int .i64 ds.length, .int .i64 1, .int .i64 ow, .int .i64 ep, .int .i64 ln, .slice a1 l.length c1] 34 (0, 0)) := by rw [← hw6]; exact heap_alloc_last wdr _
      obtain ⟨n6, hn6⟩ : ∃ n6, wdr.heap.size = n6 := ⟨_, rfl⟩
      rw [hw6, hn6]
      rw [hn6] at hr6
      clear hw6 hn6
      refine hK.out _ _ hb6 (fun hHeld => ?_)
      clear hK K
      refine Rd 1 ?p1r_3 ?s1r_3
      intro K hK
      obtain ⟨a7, c7, w7, HR7, ho7, hb7', hb7⟩ := HA1.out _ hHeld
      refine step_append_known (by rfl) _ _ 27 (by rfl) _ _ (by rfl) (by rfl) _ _ (HR7.out _) ?_
      have hr6 := bel_row hr6 hb7'
      refine hK.out _ _ hb7 (fun hHeld => ?_)
      clear hK K
      refine Rd 4 ?p4r_3_1 ?s4r_3_1
      intro K hK
      obtain ⟨a8, c8, w8, HR8, hb8, HQ8⟩ := HA4.out _ _ _ _ hHeld ho7 hr6
      refine step_append_known (by rfl) _ _ 27 (by rfl) _ _ (by rfl) (by rfl) _ _ (HR8.out _) ?_
      refine hK.out _ _ hb8 (fun hHeld => ?_)
      clear hK K
      refine Tm 7 ?p7r_3_1_4 ?v7r_3_1_4 hHeld ?r7r_3_1_4
      refine Tm 8 ?p8r_3_1_4 ?v8r_3_1_4 hHeld ?r8r_3_1_4
      refine Tm 9 ?p9r_3_1_4 ?v9r_3_1_4 hHeld ?r9r_3_1_4
      simp only [Act.put, Pa, Pb, Pc]
      refine wpAnyH_done (by kernel_rfl) ?_ _
      clear hHeld hb8 HA1 HA4 HS
      go_wp2
      go_ret3
      exact HQ8.out
end

end Go.Proofs.Ytgcfpihfoekllaa
