/-
  The law MembersOne, walked.
-/
import Derived.Test.YtacfndfkoiifhaaRK
namespace Go.Proofs.Ytacfndfkoiifhaa
open Go.RowKit
set_option linter.unusedVariables false
open Mb (S)

theorem GOk.len (g : Gr) (h : few g 0 = true) : g.l.length ≤ 1000000 ∧ g.sp.length ≤ 1000000 := by have := few_of h; omega
set_option maxRecDepth 100000 in
set_option maxHeartbeats 4000000 in
theorem one_walk (g : Gr) (a b : Int) (w : World) (hg : GOk w g) : Calls Try.prog 6 #[gV g, .int .i64 a, .int .i64 b] w fun e w' => e = .returned (.bool true) ∧ Below w.heap.size w w' := by
  obtain ⟨W1, HW1⟩ : ∃ W1, Hid (w.alloc (.cells #[.slice g.a g.l.length g.c, .slice g.a2 g.sp.length g.c2] 24) = W1) := ⟨_, rfl⟩
  have HB1 : Hid (Below w.heap.size w W1) := by rw [← HW1.out]; exact bel1 w _
  have hr1 : W1.heap[w.heap.size]? = some (.cells #[.slice g.a g.l.length g.c, .slice g.a2 g.sp.length g.c2] 24 (0, 0)) := by rw [← HW1.out]; exact heap_alloc_last w _
  have HR1 := Hid_of hr1
  obtain ⟨c0, c1⟩ := row2c hr1
  have hfew := few_any g none 0 0 W1 (Nat.zero_le _) hg.m1 hg.m2
  have HG1 := Hid_of (hg.keep HB1.out)
  have HG := Hid_of hg
  clear hr1 hg
  cases hf : few g 0 with
  | false =>
    rw [show fewN g 0 = 0 by simp [fewN, hf]] at hfew
    clear hf
    go_enter Try.func6, Try.ntmps6
    go_upto_region 1 with fail
    rw [HW1.out]
    clear HW1
    go_wp2_with fail
    refine hfew.mono ?_
    rintro e w2 ⟨rfl, hb2⟩
    have HB2 := Hid_of (bel_up HB1.out hb2 (Nat.le_refl _))
    clear hfew hb2
    go_wp2_with fail
    refine (awake_any w2).mono ?_
    rintro e w3 ⟨rfl, hb3⟩
    have HB3 := Hid_of (bel_up HB2.out hb3 (Nat.le_refl _))
    clear hb3
    go_wp2
    go_ret
    exact ⟨rfl, HB3.out⟩
  | true =>
  rw [show fewN g 0 = 1 by simp [fewN, hf]] at hfew
  obtain ⟨m1, m2⟩ := GOk.len g hf
  clear hf
  go_enter Try.func6, Try.ntmps6
  go_upto_region 1 with fail
  rw [HW1.out]
  clear HW1
  go_wp2_with fail
  refine hfew.mono ?_
  rintro e w2 ⟨rfl, hb2⟩
  have HB2 := Hid_of (bel_up HB1.out hb2 (Nat.le_refl _))
  have HR2 := Hid_of (bel_row HR1.out hb2)
  have HG2 := Hid_of (HG1.out.keep hb2)
  obtain ⟨y0, y1⟩ := row2c HR2.out
  have hnew := newG_any (w0 := w2) (Below.refl _ _) g.a g.c g.l g.a2 g.c2 g.sp m1 m2 HG2.out.at1 HG2.out.at2
  clear hfew hb2 HR1 HG1 HB1 c0 c1
  go_wp2_with fail
  refine hnew.mono ?_
  rintro e w3 ⟨hb3, hcase⟩
  have HB3 := Hid_of (bel_up HB2.out hb3 (Nat.le_refl _))
  clear hnew y0 y1
  rcases hcase with ⟨-, bm, va, vb, rfl, hm, -⟩ | ⟨-, rfl⟩
  case inr =>
    clear hb3 HB2 HR2 HG2
    go_wp2_with fail
    refine (awake_any w3).mono ?_
    rintro e w4 ⟨rfl, hb4⟩
    have HB4 := Hid_of (bel_up HB3.out hb4 (Nat.le_refl _))
    clear hb4
    go_wp2
    go_ret
    exact ⟨rfl, HB4.out⟩
  -- what stays while the group lives
  have HK : Hid (∀ W, Below w2.heap.size w2 W → Below w.heap.size w W ∧ W.heap[w.heap.size]? = some (.cells #[.slice g.a g.l.length g.c, .slice g.a2 g.sp.length g.c2] 24 (0, 0)) ∧ GOk W g) := Hid_of fun W hW => ⟨bel_up HB2.out hW (Nat.le_refl _), bel_row HR2.out hW, HG2.out.keep hW⟩
  have hc := hm.fail (by show (1 : Int) ≤ 1000000; decide) a 1
  clear hb3 HB2 HR2 HG2 hm
  by_cases hz : Mb.fc (Mb.s0 g.l g.sp) a 1 = 0
  case neg =>
    have d1 : (Mb.fc (Mb.s0 g.l g.sp) a 1 == 0) = false := beq_false_of_ne hz
    have d2 : (Mb.fc (Mb.s0 g.l g.sp) a 1 != 0) = true := bne_iff_ne.2 hz
    clear hz
    generalize Mb.fc (Mb.s0 g.l g.sp) a 1 = fcv at *
    go_wp2_with fail
    refine hc.mono ?_
    rintro e w4 ⟨rfl, v4, h4, -⟩
    have HB4 := Hid_of (HK.out _ h4.bel).1
    clear hc h4 HK
    go_wp2_with fail
    refine (awake_any w4).mono ?_
    rintro e w5 ⟨rfl, hb5⟩
    have HB5 := Hid_of (bel_up HB4.out hb5 (Nat.le_refl _))
    clear hb5
    go_wp2
    go_ret
    exact ⟨rfl, HB5.out⟩
  have hp := Mb.one_fail hz
  rw [hz, Mb.one_hole hz] at hc
  go_wp2_with fail
  refine hc.mono ?_
  rintro e w4 ⟨rfl, v4, h4, -⟩
  obtain ⟨-, hr4, hg4⟩ := HK.out _ h4.bel
  obtain ⟨y0, y1⟩ := row2c hr4
  have hat := refAt_any g.a g.c g.l a w4 m1 hg4.at1
  have H4 := Hid_of h4
  clear hc h4 hr4 hg4 hz
  go_wp2_with fail
  refine hat.mono ?_
  rintro e w5 ⟨rfl, hw5⟩
  subst w5
  have hc5 := H4.out.fail (by show (2 : Int) ≤ 1000000; decide) b 2
  have hsec := Mb.one_second (s := ⟨g.l, g.sp, 2, Mb.pl g.l a, false, a⟩) hp b 2
  rw [Mb.fs_no hsec] at hc5
  clear hat H4
  go_wp2_with fail
  refine hc5.mono ?_
  rintro e w5 ⟨rfl, v5, h5, -⟩
  have hc6 := h5.swap (by show (2 : Int) ≤ 1000000; decide) 2
  have e1 : (Mb.fc ⟨g.l, g.sp, 2, Mb.pl g.l a, false, a⟩ b 2 == 0) = false := beq_false_of_ne hsec
  generalize Mb.fc ⟨g.l, g.sp, 2, Mb.pl g.l a, false, a⟩ b 2 = fcv at *
  have e2 : decide (Mb.pl g.l a < 0) = false := decide_eq_false (by omega)
  have HP := Hid_of hp
  have hlt : Mb.pl g.l a < g.l.length := (Mb.pl_lt (Mb.pl_ge.1 hp)).2.1
  clear hc5 h5 hsec hp
  cases hsp : g.sp with
  | nil =>
    have h7 : Mb.wc ⟨g.l, g.sp, 2, Mb.pl g.l a, false, a⟩ 2 = 7 := by rw [hsp]; exact Mb.one_none
    have h7v : Mb.wv ⟨g.l, g.sp, 2, Mb.pl g.l a, false, a⟩ 2 = 0 := by unfold Mb.wv; rw [if_neg (by rw [h7]; decide)]
    rw [h7, h7v, Mb.ws_no (by rw [h7]; decide)] at hc6
    have hln : ((g.sp.length : Int)) = 0 := by rw [hsp]; rfl
    have hln0 : g.sp.length = 0 := by rw [hsp]; rfl
    clear h7 h7v hlt HP y0 y1 hsp
    generalize hpv : Mb.pl g.l a = p at *
    go_wp2_with fail
    refine hc6.mono ?_
    rintro e w6 ⟨rfl, v6, h6, -⟩
    have hc7 := h6.hole
    obtain ⟨-, hr6, -⟩ := HK.out _ h6.bel
    obtain ⟨y0, y1⟩ := row2c hr6
    rw [hln0] at y1
    have H6 := Hid_of h6
    clear hc6 h6 hr6 hpv hln hln0
    go_wp2_with fail
    refine hc7.mono ?_
    rintro e w7 ⟨rfl, hw7⟩
    subst w7
    clear hc7
    go_wp2_with fail
    obtain ⟨hb6, hr6, hg6⟩ := HK.out _ H6.out.bel
    have HB := Hid_of hb6
    have HS : Hid (∀ wq, Below w6.heap.size w6 wq → wq.cell? ⟨w.heap.size, 0, none⟩ = some (.slice g.a g.l.length g.c) ∧ wq.cell? ⟨w.heap.size, 1, none⟩ = some (.slice g.a2 g.sp.length g.c2)) := Hid_of fun wq hq => row2c (bel_row hr6 hq)
    have HSV : Hid (∀ wq, Below w6.heap.size w6 wq → Calls Try.prog 16 #[.pointer (some ⟨bm, 0, none⟩)] wq (CpOut wq g.l)) := Hid_of fun wq hq => (H6.out.keep hq).servers
    have HSM : Hid (∀ (wq : World) (ao : Option Addr) (co : Nat), Below w6.heap.size w6 wq → AtL il wq ao g.l → Calls Try.prog 15 #[.slice ao g.l.length co, .slice g.a g.l.length g.c] wq fun e w' => e = .returned (.bool true) ∧ Below wq.heap.size wq w') := Hid_of fun wq ao co hq ho => same_any m1 ho (hg6.at1.keep hq)
    clear y0 y1 H6 hb6 hr6 hg6 HK
    refine wp_region_held_drew (S := fun wq => Below (w6).heap.size (w6) wq) (by kernel_rfl) (Below.drew (Below.refl _ _)) (fun hHeld => ?_)
    obtain ⟨wdx, hwdx⟩ : ∃ wd, w6.drew = wd := ⟨_, rfl⟩
    have hBwd : Below w6.heap.size w6 wdx := by rw [← hwdx]; exact Below.drew (Below.refl _ _)
    rw [hwdx] at hHeld ⊢
    clear hwdx
    refine Tm 0 ?p0x ?v0x hHeld ?r0x
    simp only [Act.put, Pa, Pb, Pc]
    refine Tm 2 ?p2x ?v2x hHeld ?r2x
    simp only [Act.put, Pa, Pb, Pc]
    refine Tk 3 ?p3x ?v3x ?y3x hHeld ?r3x
    case y3x => intro wq hq; obtain ⟨z0, z1⟩ := HS.out wq hq; go_simp; try with_reducible rfl
    simp only [Act.put, Pa, Pb, Pc]
    refine Rd 1 ?p1x ?s1x
    intro K hK
    go_simp
    obtain hsv := HSV.out _ hHeld
    refine hsv.mono ?_
    rintro e w9 ⟨rfl, ho9, hb9⟩
    have HO9 := Hid_of ho9
    have hb9' := bel_up hHeld hb9 (Nat.le_refl _)
    clear hsv ho9 hb9
    refine hK.out _ _ hb9' (fun hHeld => ?_)
    clear hK K
    refine Rd 4 ?p4x_1 ?s4x_1
    intro K hK
    go_simp
    obtain ⟨ao, co, hao, hxo, -⟩ := HO9.out.at
    simp only [Value.slice.injEq] at hao
    obtain ⟨rfl, -, rfl⟩ := hao
    have hsm := HSM.out w9 _ g.l.length hb9' hxo.at'
    refine hsm.mono ?_
    rintro e w10 ⟨rfl, hb10⟩
    have hb10' := bel_up hb9' hb10 (Nat.le_refl _)
    clear hsm hb10 hxo HO9 hb9'
    refine hK.out _ _ hb10' (fun hHeld => ?_)
    clear hK K
    refine Tm 5 ?p5x_1_4 ?v5x_1_4 hHeld ?r5x_1_4
    simp only [Act.put, Pa, Pb, Pc]
    refine Rd 6 ?p6x_1_4 ?s6x_1_4
    intro K hK
    go_simp
    refine (awake_any w10).mono ?_
    rintro e w11 ⟨rfl, hb11⟩
    have hb11' := bel_up hb10' hb11 (Nat.le_refl _)
    clear hb11 hb10'
    refine hK.out _ _ hb11' (fun hHeld => ?_)
    clear hK K
    refine Tm 7 ?p7x_1_4_6 ?v7x_1_4_6 hHeld ?r7x_1_4_6
    simp only [Act.put, Pa, Pb, Pc]
    refine Tm 8 ?p8x_1_4_6 ?v8x_1_4_6 hHeld ?r8x_1_4_6
    simp only [Act.put, Pa, Pb, Pc]
    refine wpAnyH_done (by kernel_rfl) ?_ _
    have HZ := Hid_of (bel_up HB.out hb11' (Nat.le_refl _))
    clear hb11'
    go_wp2
    go_ret
    exact ⟨rfl, HZ.out⟩
  | cons x xs =>
    obtain ⟨i, hi⟩ : ∃ i : Nat, Mb.pl g.l a = i := Int.eq_ofNat_of_zero_le HP.out
    have hil : i < g.l.length := by omega
    have h0 : Mb.wc ⟨g.l, g.sp, 2, Mb.pl g.l a, false, a⟩ 2 = 0 := by rw [hsp]; exact Mb.one_swap HP.out
    have h0v : Mb.wv ⟨g.l, g.sp, 2, Mb.pl g.l a, false, a⟩ 2 = x := by rw [hsp]; exact Mb.one_which HP.out
    have h0s : Mb.ws ⟨g.l, g.sp, 2, Mb.pl g.l a, false, a⟩ 2 = ⟨g.l.set i x, xs, 3, (i : Int), true, a⟩ := by rw [hsp, Mb.one_swapped HP.out, hi]; rfl
    rw [h0, h0v, h0s] at hc6
    have HSP := Hid_of hsp
    have HLN : Hid (g.sp.length = xs.length + 1) := Hid_of (by rw [hsp]; rfl)
    clear h0 h0v h0s hlt HP y0 y1 hsp
    rw [hi] at e2
    generalize hpv : Mb.pl g.l a = p at *
    subst hi
    clear hpv
    go_wp2_with fail
    refine hc6.mono ?_
    rintro e w6 ⟨rfl, v6, h6, -⟩
    have hc7 := h6.hole
    obtain ⟨-, hr6, -⟩ := HK.out _ h6.bel
    obtain ⟨y0, y1⟩ := row2c hr6
    rw [HLN.out] at y1
    have H6 := Hid_of h6
    have hd0 : decide ((0 : Int) < ((xs.length + 1 : Nat) : Int)) = true := decide_eq_true (by omega)
    clear hc6 h6 hr6
    go_wp2_with fail
    refine hc7.mono ?_
    rintro e w7 ⟨rfl, hw7⟩
    subst w7
    obtain ⟨hbb6, hr6, hg6⟩ := HK.out _ H6.out.bel
    obtain ⟨aw, cw, w7, hcp, how, hbw⟩ := copyA w6 g.a g.c g.l hg6.at1 m1
    obtain ⟨gw, cw2, hvw, hge, -, hcw, hfw, hset⟩ := how.set1 i hil 0 (by decide)
    simp only [Value.slice.injEq] at hvw
    obtain ⟨rfl, -, rfl⟩ := hvw
    have hcw2 : w7.cell? ⟨gw, i, none⟩ = some (.int .i64 g.l[i]) := by simpa [il] using hcw
    have hfw2 := hfw i
    clear hcw hfw
    have hset : OwnL il 3 (w7.setCell ⟨gw, i, none⟩ (.int .i64 x)) w6.heap.size (.slice (some ⟨gw, 0, none⟩) g.l.length cw) (g.l.set i x) := by
      have := hset x (.int .i64 x) rfl
      simpa [il] using this
    have hat2 := hg6.at2.keep hbw
    rw [HSP.out] at hat2
    obtain ⟨g2, o2, ha2, cx, -⟩ := hat2.tail
    obtain ⟨z0, z1⟩ := row2c (bel_row hr6 hbw)
    rw [HLN.out, ha2] at z1
    rw [ha2] at y1
    have hb8 : Below w6.heap.size w6 (w7.setCell ⟨gw, i, none⟩ (.int .i64 x)) := hbw.setCell hge _
    obtain ⟨z0', z1'⟩ := row2c (bel_row hr6 hb8)
    rw [HLN.out, ha2] at z1'
    have hat3 := hg6.at2.keep hb8
    rw [HSP.out] at hat3
    obtain ⟨g3, o3, ha3, cx', -⟩ := hat3.tail
    rw [ha2] at ha3
    cases ha3
    have hln : (g.l.set i x).length = g.l.length := List.length_set
    have hsv : Calls Try.prog 16 #[.pointer (some ⟨bm, 0, none⟩)] (w7.setCell ⟨gw, i, none⟩ (.int .i64 x)) fun e w' => e = .returned (.slice (some ⟨w7.heap.size, 0, none⟩) g.l.length g.l.length) ∧ AtL il w' (some ⟨w7.heap.size, 0, none⟩) (g.l.set i x) ∧ Below (w7.setCell ⟨gw, i, none⟩ (.int .i64 x)).heap.size (w7.setCell ⟨gw, i, none⟩ (.int .i64 x)) w' :=
      ((H6.out.keep hb8).servers).mono fun e w' ⟨q1, q2, q3⟩ => by
        have hs : (w7.setCell ⟨gw, i, none⟩ (.int .i64 x)).heap.size = w7.heap.size := by simp
        rw [hs] at q1 q2
        obtain ⟨ao, co, hao, hxo, -⟩ := q2.at
        simp only [Value.slice.injEq] at hao
        obtain ⟨rfl, -, rfl⟩ := hao
        refine ⟨?_, hxo.at', q3⟩
        rw [q1]
        show Ending.returned (.slice _ (g.l.set i x).length (g.l.set i x).length) = _
        rw [hln]
    obtain ⟨w8, hw8⟩ : ∃ w8, Hid (w7.setCell ⟨gw, i, none⟩ (.int .i64 x) = w8) := ⟨_, rfl⟩
    have HST := Hid_of hset
    rw [hw8.out] at hb8 hsv HST z0' z1' cx'
    have HB8 := Hid_of (bel_up hbb6 hb8 (Nat.le_refl _))
    have HSM : Hid (∀ (wq : World) (ao : Option Addr) (co : Nat), Below w8.heap.size w8 wq → AtL il wq ao (g.l.set i x) → Calls Try.prog 15 #[.slice ao g.l.length co, .slice (some ⟨gw, 0, none⟩) g.l.length cw] wq fun e w' => e = .returned (.bool true) ∧ Below wq.heap.size wq w') := Hid_of fun wq ao co hq ho => by
      obtain ⟨a4, c4, hao, hxo, -⟩ := (HST.out.keep hq).at
      rw [hln] at hao
      simp only [Value.slice.injEq, true_and] at hao
      obtain ⟨rfl, rfl⟩ := hao
      have := same_any (c1 := co) (c2 := cw) (by rw [hln]; exact m1) ho hxo.at'
      rwa [hln] at this
    have HCP := Hid_of hcp
    have hni : (i : Int) < (g.l.length : Int) := by omega
    have hn0 : (0 : Int) ≤ (i : Int) := by omega
    have HGG : Hid (gw ≠ w.heap.size ∧ gw ≠ g2) := Hid_of ⟨fun e => by have := (Array.getElem?_eq_some_iff.1 hr6).1; omega, fun e => by
      have h6 := hg6.at2
      rw [HSP.out] at h6
      obtain ⟨g5, o5, h5, c5, -⟩ := h6.tail
      rw [ha2] at h5
      cases h5
      have := cell_lt c5
      omega⟩
    clear hc7 hcp how hset hat2 hat3 hbw hb8 hr6 hg6 hbb6 H6 HK HLN HSP hge hln HST
    generalize g.l[i] = xo at *
    go_upto_region 15 with (first | (at_builtin; refine wpList_append_known rfl _ _ 22 rfl _ _ rfl rfl _ _ (HCP.out _) ?_))
    rw [hw8.out]
    go_wp2_with fail
    refine hsv.mono ?_
    rintro e w9 ⟨rfl, hx9, hb9⟩
    have hsm := HSM.out w9 _ g.l.length hb9 hx9
    have HB9 := Hid_of (bel_up HB8.out hb9 (Nat.le_refl _))
    clear hsv hx9 hb9 HSM HB8
    go_wp2_with fail
    refine hsm.mono ?_
    rintro e w10 ⟨rfl, hb10⟩
    have HB10 := Hid_of (bel_up HB9.out hb10 (Nat.le_refl _))
    clear hsm hb10 HB9
    go_wp2_with fail
    refine (awake_any w10).mono ?_
    rintro e w11 ⟨rfl, hb11⟩
    have HB11 := Hid_of (bel_up HB10.out hb11 (Nat.le_refl _))
    clear hb11 HB10
    go_wp2
    go_ret
    exact ⟨rfl, HB11.out⟩
end Go.Proofs.Ytacfndfkoiifhaa
