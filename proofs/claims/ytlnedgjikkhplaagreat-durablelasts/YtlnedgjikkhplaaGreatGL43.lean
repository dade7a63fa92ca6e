/-
  The law DurableLasts, walked.
-/
import Derived.Test.YtlnedgjikkhplaaGreatGL42
namespace Go.Proofs.YtlnedgjikkhplaaGreat.Du
open Go.RowKit
set_option linter.unusedVariables false
set_option linter.unusedSimpArgs false
open Na (Fr AS XL vl bV vV Hid_of bel1 bel2 bel_up bel_row row2 row4 blk OwnL AtL)
open Na.M (E V S S0)

abbrev dVl (d : D) : Value := .agg #[.int .i64 d.k, .int .i64 d.v.s, .int .i64 d.v.b.i, .int .i64 d.v.b.t, .string d.v.v, .int .i64 d.st, .int .u64 (d.kp : Int)]
set_option maxRecDepth 100000 in
set_option maxHeartbeats 8000000 in
theorem lasts_walk (n0 : Int) (al : Option Addr) (cap : Nat) (l : List D) (d : D) (w : World) (hn0 : (Lit.int .i64 n0).wf = true) (hm : l.length ≤ maxLen) (hat : AtL dl w al l) (hok : ∀ d ∈ l, d.ok) (hd : d.ok) :
    Calls Tryz.prog 4 #[.int .i64 n0, .slice al l.length cap, dVl d] w fun e w' => e = .returned (.bool true) ∧ Below w.heap.size w w' := by
  obtain ⟨w0, HW0⟩ : ∃ w0, Hid (w.alloc (.cells #[.int .i64 d.k, .int .i64 d.v.s, .int .i64 d.v.b.i, .int .i64 d.v.b.t, .string d.v.v, .int .i64 d.st, .int .u64 (d.kp : Int)] 53) = w0) := ⟨_, Hid_of rfl⟩
  have hbw : Below w.heap.size w w0 := by rw [← HW0.out]; exact bel1 w _
  have hrd : w0.heap[w.heap.size]? = some (.cells #[.int .i64 d.k, .int .i64 d.v.s, .int .i64 d.v.b.i, .int .i64 d.v.b.t, .string d.v.v, .int .i64 d.st, .int .u64 (d.kp : Int)] 53 (0, 0)) := by rw [← HW0.out]; exact heap_alloc_last w _
  obtain ⟨BD, HBD⟩ : ∃ BD, Hid (w.heap.size = BD) := ⟨_, Hid_of rfl⟩
  rw [HBD.out] at hrd
  have HRD := Hid_of hrd
  have HBW := Hid_of hbw
  have HAT := Hid_of (hat.keep hbw)
  have hfew := few_any n0 al cap l w0 hm HAT.out hok
  have HOKS := Hid_of hok
  have HKP := Hid_of hd.2.2
  clear hat hok hm hn0 hbw hrd hd
  go_enter Tryz.func4, Tryz.ntmps4
  go_upto_region 1 with fail
  rw [HW0.out]
  rw [HBD.out]
  clear HW0
  go_wp2_with fail
  refine hfew.mono ?_
  rintro e w1 (⟨rfl, rfl⟩ | ⟨rfl, hfw, rfl⟩)
  · clear hfew
    go_wp2_with fail
    refine (awake_any _).mono ?_
    rintro e w8 ⟨rfl, b8⟩
    have HB8 := Hid_of b8
    clear b8
    go_wp2
    go_ret
    exact ⟨rfl, bel_up HBW.out HB8.out (Nat.le_refl _)⟩
  · have HFW := Hid_of hfw
    have hl25 : l.length ≤ 25 := hfw.l
    clear hfew hfw
    have hnw := Ns.newD n0 w1
    have hcn := Ns.cntOf_le n0
    obtain ⟨n, hnn⟩ : ∃ n, Ns.cntOf n0 = n := ⟨_, rfl⟩
    rw [hnn] at hnw hcn
    clear hnn
    obtain ⟨hcn1, hcn2, _⟩ := hcn
    go_wp2_with fail
    refine hnw.mono ?_
    rintro e w2 ⟨db, FD1, rfl, ds2⟩
    clear hnw
    by_cases hsm : n < 10
    · have ho := open_small ds2 hsm
      have HD2 := Hid_of ds2
      clear ds2 hsm hcn1 hcn2
      go_wp2_with fail
      refine ho.mono ?_
      rintro e w3 ⟨rfl, hw3⟩
      obtain rfl := hw3.symm
      clear ho hw3
      go_wp2_with fail
      refine (awake_any _).mono ?_
      rintro e w8 ⟨rfl, b8⟩
      have HB8 := Hid_of b8
      clear b8
      go_wp2
      go_ret
      exact ⟨rfl, bel_up (bel_up HBW.out HD2.out.bel (Nat.le_refl _)) HB8.out (Nat.le_refl _)⟩
    · have gd0 := Gd.new n (by omega) hcn2
      have ho := open_any ds2 gd0
      have HG0 := Hid_of gd0
      clear gd0 ds2 hsm hcn1 hcn2
      go_wp2_with fail
      refine ho.mono ?_
      rintro e w3 ⟨b0, ab0, FA0, rfl, du0, hb0, _, _⟩
      obtain ⟨W1, HW1⟩ : ∃ W1, Hid (w3.alloc (.cells #[.int .i64 0, .int .i64 0, .int .i64 0, .slice none 0 0] 39) = W1) := ⟨_, Hid_of rfl⟩
      have hb1 : Below w3.heap.size w3 W1 := by rw [← HW1.out]; exact bel1 w3 _
      have hr1 : W1.heap[w3.heap.size]? = some (.cells #[.int .i64 0, .int .i64 0, .int .i64 0, .slice none 0 0] 39 (0, 0)) := by rw [← HW1.out]; exact heap_alloc_last w3 _
      obtain ⟨B, HBw⟩ : ∃ B, Hid (w3.heap.size = B) := ⟨_, Hid_of rfl⟩
      have HL1 : Hid (LS w1 W1 FA0 FD1 b0 ab0 db n (Ns.new n) X0 [] B none 0) := Hid_of (by
        rw [← HBw.out]
        exact ⟨du0.keep hb1, HG0.out, ⟨⟨XL.emp _, fun k hk => (by obtain ⟨_, _, h⟩ := hk; cases h), fun k hk => (by obtain ⟨_, _, h⟩ := hk; cases h)⟩, ⟨hr1, fun e => by have := (du0.mine _ e).2; omega⟩, by simp [X0, S0]⟩, du0.bel.size⟩)
      clear ho du0 hb0 hb1 hr1 HG0
      go_upto_region 8 with fail
      rw [HW1.out]
      rw [HBw.out]
      clear HW1 HBw
      go_wp2
      go_loopw [8, 11] (fun pv i wr => ∃ (k b : Nat) (s : X), k ≤ l.length ∧ pv = ptr b ∧ i = .int .i64 k ∧ s.cut = false ∧ s.ep ≤ k ∧ LI w1 db n B b s wr) (fun _ i _ => l.length - (intOf i).toNat)
      case atStart => exact ⟨0, b0, X0, Nat.zero_le _, rfl, rfl, rfl, Nat.le_refl _, ⟨_, _, _, _, _, _, _, HL1.out⟩⟩
      case round =>
        obtain ⟨k, b, s, hk, rfl, rfl, hcut, hep, hli⟩ := hrel
        by_cases hlt : k < l.length
        · obtain ⟨FA, FD, ab, P, rs, ad, c, hL⟩ := hli
          obtain ⟨g0, off, rfl, c0, c1, c2, c3, c4, c5, c6⟩ := getD (HAT.out.keep hL.du.bel) k hlt
          clear c0 c1 c2 c3 c4 c5 c6
          obtain ⟨d', HDE⟩ : ∃ d', Hid (l[k] = d') := ⟨_, Hid_of rfl⟩
          obtain ⟨c0, c1, c2, c3, c4, c5, c6⟩ := getE (HAT.out.keep hL.du.bel) k hlt d' HDE.out
          have HKP' : Hid (d'.kp < 18446744073709551616) := Hid_of (by rw [← HDE.out]; exact (HOKS.out _ (List.getElem_mem _)).2.2)
          obtain ⟨W1, HW1⟩ : ∃ W1, Hid (wr.alloc (.cells #[.int .i64 d'.v.s, .int .i64 d'.v.b.i, .int .i64 d'.v.b.t, .string d'.v.v] 48) = W1) := ⟨_, Hid_of rfl⟩
          have hb1 : Below wr.heap.size wr W1 := by rw [← HW1.out]; exact bel1 wr _
          have hx1 : W1.heap[wr.heap.size]? = some (.cells #[.int .i64 d'.v.s, .int .i64 d'.v.b.i, .int .i64 d'.v.b.t, .string d'.v.v] 48 (0, 0)) := by rw [← HW1.out]; exact heap_alloc_last wr _
          have hnf : ¬ fpd b FA FD wr.heap.size := fun e => by have := (hL.du.mine _ e).2; omega
          obtain ⟨bx, hbx⟩ : ∃ bx, wr.heap.size = bx := ⟨_, rfl⟩
          have L1 := hL.keep hb1
          rw [hbx] at hx1 hnf
          have HD := Hid_of L1.du
          have HG := Hid_of L1.gd
          have HC := Hid_of L1.dc
          have HLO := Hid_of L1.lo
          have HOK := Hid_of L1.gd.aok.1
          have HX := Hid_of hx1
          have HNF := Hid_of hnf
          have HBX := Hid_of hbx
          have HCUT := Hid_of hcut
          have HEPK := Hid_of hep
          have HEP1 : Hid (s.ep ≤ k + 1) := Hid_of (by omega)
          have hdk : W1.cell? ⟨g0, off + k * 7, none⟩ = some (.int .i64 d'.k) := (World.cell?_of_block (w := wr) (a := ⟨g0, off + k * 7, none⟩) (hb1.block g0 (World.block_lt_of_cell? wr _ c0))).trans c0
          obtain ⟨⟨y0, y1, y2, y3⟩, _⟩ := row4 hx1
          obtain ⟨⟨z0, z1, z2, z3⟩, _⟩ := row4 L1.dc.bx.row
          clear hL hb1 L1 hx1 hnf hbx hcut hep
          go_upto_region 12 with fail
          rw [HW1.out]
          rw [HBX.out]
          clear HW1 HBX c0 c1 c2 c3 c4 c5 c6 HKP
          obtain ⟨v, hv⟩ : ∃ v, d'.v = v := ⟨_, rfl⟩
          rw [hv] at HX y0 y1 y2 y3
          by_cases hk0 : d'.k = 0
          · rw [hk0] at hdk
            have hc := HD.out.promise HG.out v.b v.s
            go_wp2_with fail
            refine hc.mono ?_
            rintro e w2 ⟨av, cv, rfl, _, _, FA2, FD2, P2, rs2, D2, G2, Q2⟩
            have DC2 := HC.out.step Q2
            have X2 := ((Na.BX.mk HX.out HNF.out).step Q2).row
            clear hc Q2 y0 y1 y2 y3 z0 z1 z2 z3
            obtain ⟨⟨y0, y1, y2, y3⟩, _⟩ := row4 X2
            obtain ⟨⟨z0, z1, z2, z3⟩, _⟩ := row4 DC2.bx.row
            cases hpb : ppb n s v.b v.s with
            | false =>
              rw [ppx_no hpb] at D2 G2
              have HL := Hid_of (LS.mk D2 G2 DC2 HLO.out)
              clear D2 G2 DC2 X2 y0 y1 y2 y3 z0 z1 z2 z3
              clear hpb
              go_wp2
              go_roundw
              case rel => exact ⟨k + 1, b, s, by omega, rfl, by go_num, HCUT.out, HEP1.out, ⟨_, _, _, _, _, _, _, HL.out⟩⟩
              case measure => simp [intOf]; omega
            | true =>
              have E0 := ppx_yes hpb
              obtain ⟨x2, hx2⟩ : ∃ x2, ppx n s v.b v.s = x2 := ⟨_, rfl⟩
              rw [hx2] at E0 D2 G2
              obtain ⟨d2, hd2⟩ : ∃ d2, Na.M.prs s.a v.b v.s = d2 := ⟨_, rfl⟩
              have E2 := Hid_of (E0.1.trans hd2)
              have HEP : Hid (x2.ep ≤ k + 1) := Hid_of (by have := HEPK.out; rw [E0.2.1]; omega)
              have HCT : Hid (x2.cut = false) := Hid_of (E0.2.2.trans HCUT.out)
              have hc := DC2.rpromise (fun q hq => (D2.mine q hq).2) v.b v.s
              clear E0 hx2 X2
              clear hpb
              go_wp2_with fail
              refine hc.mono ?_
              rintro e w3 ⟨a2', c2', rfl, Xd, Xv, hb3⟩
              clear hc
              clear Xv
              rw [hd2] at Xd
              rw [hd2]
              clear hd2
              obtain ⟨W3, HW3⟩ : ∃ W3, Hid (w3.alloc (.cells #[.int .i64 d2.p.i, .int .i64 d2.p.t, .int .i64 d2.base, .slice ad d2.l.length c] 39) = W3) := ⟨_, Hid_of rfl⟩
              have hb4 : Below w3.heap.size w3 W3 := by rw [← HW3.out]; exact bel1 w3 _
              have hr4 : W3.heap[w3.heap.size]? = some (.cells #[.int .i64 d2.p.i, .int .i64 d2.p.t, .int .i64 d2.base, .slice ad d2.l.length c] 39 (0, 0)) := by rw [← HW3.out]; exact heap_alloc_last w3 _
              have D4 := (D2.keep hb3).keep hb4
              have DC4 := (DC2.up hb3).up hb4
              have L5 := LS.set D4 G2 DC4 HLO.out (Xd.up hb4) E2.out
              obtain ⟨⟨t0, t1, t2, t3⟩, _⟩ := row4 hr4
              obtain ⟨⟨r0, r1, r2, r3⟩, rf⟩ := row4 DC4.bx.row
              have rf0 := rf 0
              have rf1 := rf 1
              have rf2 := rf 2
              have rf3 := rf 3
              obtain ⟨bY, hbY⟩ : ∃ bY, w3.heap.size = bY := ⟨_, rfl⟩
              rw [hbY] at t0 t1 t2 t3
              have hWp : (((W3.setCell ⟨B, 0, none⟩ (.int .i64 d2.p.i)).setCell ⟨B, 1, none⟩ (.int .i64 d2.p.t)).setCell ⟨B, 2, none⟩ (.int .i64 d2.base)).setCell ⟨B, 3, none⟩ (.slice ad d2.l.length c) = Na.put4 W3 B (.int .i64 d2.p.i) (.int .i64 d2.p.t) (.int .i64 d2.base) (.slice ad d2.l.length c) := rfl
              obtain ⟨W5, hW5⟩ : ∃ W5, Na.put4 W3 B (.int .i64 d2.p.i) (.int .i64 d2.p.t) (.int .i64 d2.base) (.slice ad d2.l.length c) = W5 := ⟨_, rfl⟩
              rw [hW5] at L5 hWp
              have HL5 := Hid_of L5
              have HWP := Hid_of hWp
              have HBY := Hid_of hbY
              clear hb3 hb4 hr4 D4 DC4 L5 rf hWp hbY hW5 Xd D2 DC2 G2 E2 y0 y1 y2 y3 z0 z1 z2 z3
              go_upto_region 17 with fail
              rw [HW3.out]
              try rw [HBY.out]
              clear HW3
              go_upto_region 10 with fail
              rw [HWP.out]
              clear HWP t0 t1 t2 t3 r0 r1 r2 r3 rf0 rf1 rf2 rf3
              go_wp2
              go_roundw
              case rel => exact ⟨k + 1, b, x2, by omega, rfl, by go_num, HCT.out, HEP.out, ⟨_, _, _, _, _, _, _, HL5.out⟩⟩
              case measure => simp [intOf]; omega
          · by_cases hk1 : d'.k = 1
            · rw [hk1] at hdk
              have hc := HD.out.accept HG.out v
              go_wp2_with fail
              refine hc.mono ?_
              rintro e w2 ⟨rfl, FA2, FD2, P2, rs2, D2, G2, Q2⟩
              have DC2 := HC.out.step Q2
              have X2 := ((Na.BX.mk HX.out HNF.out).step Q2).row
              clear hc Q2 y0 y1 y2 y3 z0 z1 z2 z3
              obtain ⟨⟨y0, y1, y2, y3⟩, _⟩ := row4 X2
              obtain ⟨⟨z0, z1, z2, z3⟩, _⟩ := row4 DC2.bx.row
              cases hpb : aab n s v with
              | false =>
                rw [aax_no hpb] at D2 G2
                have HL := Hid_of (LS.mk D2 G2 DC2 HLO.out)
                clear D2 G2 DC2 X2 y0 y1 y2 y3 z0 z1 z2 z3
                clear hpb
                go_wp2
                go_roundw
                case rel => exact ⟨k + 1, b, s, by omega, rfl, by go_num, HCUT.out, HEP1.out, ⟨_, _, _, _, _, _, _, HL.out⟩⟩
                case measure => simp [intOf]; omega
              | true =>
                have E0 := aax_yes HOK.out hpb
                obtain ⟨x2, hx2⟩ : ∃ x2, aax n s v = x2 := ⟨_, rfl⟩
                rw [hx2] at E0 D2 G2
                obtain ⟨d2, hd2⟩ : ∃ d2, Na.M.acs s.a v = d2 := ⟨_, rfl⟩
                have E2 := Hid_of (E0.1.trans hd2)
                have HEP : Hid (x2.ep ≤ k + 1) := Hid_of (by have := HEPK.out; rw [E0.2.1]; omega)
                have HCT : Hid (x2.cut = false) := Hid_of (E0.2.2.trans HCUT.out)
                have hc := DC2.raccept (fun q hq => (D2.mine q hq).2) HOK.out v
                clear E0 hx2 X2
                clear hpb
                go_wp2_with fail
                refine hc.mono ?_
                rintro e w3 ⟨a2', c2', rfl, Xd, hb3⟩
                clear hc
                rw [hd2] at Xd
                rw [hd2]
                clear hd2
                obtain ⟨W3, HW3⟩ : ∃ W3, Hid (w3.alloc (.cells #[.int .i64 d2.p.i, .int .i64 d2.p.t, .int .i64 d2.base, .slice a2' d2.l.length c2'] 39) = W3) := ⟨_, Hid_of rfl⟩
                have hb4 : Below w3.heap.size w3 W3 := by rw [← HW3.out]; exact bel1 w3 _
                have hr4 : W3.heap[w3.heap.size]? = some (.cells #[.int .i64 d2.p.i, .int .i64 d2.p.t, .int .i64 d2.base, .slice a2' d2.l.length c2'] 39 (0, 0)) := by rw [← HW3.out]; exact heap_alloc_last w3 _
                have D4 := (D2.keep hb3).keep hb4
                have DC4 := (DC2.up hb3).up hb4
                have L5 := LS.set D4 G2 DC4 HLO.out (Xd.up hb4) E2.out
                obtain ⟨⟨t0, t1, t2, t3⟩, _⟩ := row4 hr4
                obtain ⟨⟨r0, r1, r2, r3⟩, rf⟩ := row4 DC4.bx.row
                have rf0 := rf 0
                have rf1 := rf 1
                have rf2 := rf 2
                have rf3 := rf 3
                obtain ⟨bY, hbY⟩ : ∃ bY, w3.heap.size = bY := ⟨_, rfl⟩
                rw [hbY] at t0 t1 t2 t3
                have hWp : (((W3.setCell ⟨B, 0, none⟩ (.int .i64 d2.p.i)).setCell ⟨B, 1, none⟩ (.int .i64 d2.p.t)).setCell ⟨B, 2, none⟩ (.int .i64 d2.base)).setCell ⟨B, 3, none⟩ (.slice a2' d2.l.length c2') = Na.put4 W3 B (.int .i64 d2.p.i) (.int .i64 d2.p.t) (.int .i64 d2.base) (.slice a2' d2.l.length c2') := rfl
                obtain ⟨W5, hW5⟩ : ∃ W5, Na.put4 W3 B (.int .i64 d2.p.i) (.int .i64 d2.p.t) (.int .i64 d2.base) (.slice a2' d2.l.length c2') = W5 := ⟨_, rfl⟩
                rw [hW5] at L5 hWp
                have HL5 := Hid_of L5
                have HWP := Hid_of hWp
                have HBY := Hid_of hbY
                clear hb3 hb4 hr4 D4 DC4 L5 rf hWp hbY hW5 Xd D2 DC2 G2 E2 y0 y1 y2 y3 z0 z1 z2 z3
                go_upto_region 22 with fail
                rw [HW3.out]
                try rw [HBY.out]
                clear HW3
                go_upto_region 10 with fail
                rw [HWP.out]
                clear HWP t0 t1 t2 t3 r0 r1 r2 r3 rf0 rf1 rf2 rf3
                go_wp2
                go_roundw
                case rel => exact ⟨k + 1, b, x2, by omega, rfl, by go_num, HCT.out, HEP.out, ⟨_, _, _, _, _, _, _, HL5.out⟩⟩
                case measure => simp [intOf]; omega
            · by_cases hk2 : d'.k = 2
              · rw [hk2] at hdk
                have hc := HD.out.trim HG.out v.s
                go_wp2_with fail
                refine hc.mono ?_
                rintro e w2 ⟨rfl, FA2, FD2, P2, rs2, D2, G2, Q2⟩
                have DC2 := HC.out.step Q2
                have X2 := ((Na.BX.mk HX.out HNF.out).step Q2).row
                clear hc Q2 y0 y1 y2 y3 z0 z1 z2 z3
                obtain ⟨⟨y0, y1, y2, y3⟩, _⟩ := row4 X2
                obtain ⟨⟨z0, z1, z2, z3⟩, _⟩ := row4 DC2.bx.row
                by_cases htc : ttc n s v.s = 0
                · have E0 := ttx_yes HOK.out htc
                  rw [htc]
                  clear htc
                  obtain ⟨x2, hx2⟩ : ∃ x2, ttx n s v.s = x2 := ⟨_, rfl⟩
                  rw [hx2] at E0 D2 G2
                  obtain ⟨d2, hd2⟩ : ∃ d2, Na.M.trs s.a v.s = d2 := ⟨_, rfl⟩
                  have E2 := Hid_of (E0.1.trans hd2)
                  have HEP : Hid (x2.ep ≤ k + 1) := Hid_of (by have := HEPK.out; rw [E0.2.1]; omega)
                  have HCT : Hid (x2.cut = false) := Hid_of (E0.2.2.trans HCUT.out)
                  have hc := DC2.rtrim (fun q hq => (D2.mine q hq).2) v.s
                  clear E0 hx2 X2
                  go_wp2_with fail
                  refine hc.mono ?_
                  rintro e w3 ⟨a2', c2', rfl, Xd, hb3⟩
                  clear hc
                  rw [hd2] at Xd
                  rw [hd2]
                  clear hd2
                  obtain ⟨W3, HW3⟩ : ∃ W3, Hid (w3.alloc (.cells #[.int .i64 d2.p.i, .int .i64 d2.p.t, .int .i64 d2.base, .slice a2' d2.l.length c2'] 39) = W3) := ⟨_, Hid_of rfl⟩
                  have hb4 : Below w3.heap.size w3 W3 := by rw [← HW3.out]; exact bel1 w3 _
                  have hr4 : W3.heap[w3.heap.size]? = some (.cells #[.int .i64 d2.p.i, .int .i64 d2.p.t, .int .i64 d2.base, .slice a2' d2.l.length c2'] 39 (0, 0)) := by rw [← HW3.out]; exact heap_alloc_last w3 _
                  have D4 := (D2.keep hb3).keep hb4
                  have DC4 := (DC2.up hb3).up hb4
                  have L5 := LS.set D4 G2 DC4 HLO.out (Xd.up hb4) E2.out
                  obtain ⟨⟨t0, t1, t2, t3⟩, _⟩ := row4 hr4
                  obtain ⟨⟨r0, r1, r2, r3⟩, rf⟩ := row4 DC4.bx.row
                  have rf0 := rf 0
                  have rf1 := rf 1
                  have rf2 := rf 2
                  have rf3 := rf 3
                  obtain ⟨bY, hbY⟩ : ∃ bY, w3.heap.size = bY := ⟨_, rfl⟩
                  rw [hbY] at t0 t1 t2 t3
                  have hWp : (((W3.setCell ⟨B, 0, none⟩ (.int .i64 d2.p.i)).setCell ⟨B, 1, none⟩ (.int .i64 d2.p.t)).setCell ⟨B, 2, none⟩ (.int .i64 d2.base)).setCell ⟨B, 3, none⟩ (.slice a2' d2.l.length c2') = Na.put4 W3 B (.int .i64 d2.p.i) (.int .i64 d2.p.t) (.int .i64 d2.base) (.slice a2' d2.l.length c2') := rfl
                  obtain ⟨W5, hW5⟩ : ∃ W5, Na.put4 W3 B (.int .i64 d2.p.i) (.int .i64 d2.p.t) (.int .i64 d2.base) (.slice a2' d2.l.length c2') = W5 := ⟨_, rfl⟩
                  rw [hW5] at L5 hWp
                  have HL5 := Hid_of L5
                  have HWP := Hid_of hWp
                  have HBY := Hid_of hbY
                  clear hb3 hb4 hr4 D4 DC4 L5 rf hWp hbY hW5 Xd D2 DC2 G2 E2 y0 y1 y2 y3 z0 z1 z2 z3
                  go_upto_region 26 with fail
                  rw [HW3.out]
                  try rw [HBY.out]
                  clear HW3
                  go_upto_region 10 with fail
                  rw [HWP.out]
                  clear HWP t0 t1 t2 t3 r0 r1 r2 r3 rf0 rf1 rf2 rf3
                  go_wp2
                  go_roundw
                  case rel => exact ⟨k + 1, b, x2, by omega, rfl, by go_num, HCT.out, HEP.out, ⟨_, _, _, _, _, _, _, HL5.out⟩⟩
                  case measure => simp [intOf]; omega
                · have E0 := ttx_no htc
                  have hte : (ttc n s v.s == 0) = false := by simpa using htc
                  clear htc
                  rw [E0] at D2 G2
                  have HL := Hid_of (LS.mk D2 G2 DC2 HLO.out)
                  clear D2 G2 DC2 X2 y0 y1 y2 y3 z0 z1 z2 z3
                  clear E0
                  go_wp2
                  go_roundw
                  case rel => exact ⟨k + 1, b, s, by omega, rfl, by go_num, HCUT.out, HEP1.out, ⟨_, _, _, _, _, _, _, HL.out⟩⟩
                  case measure => simp [intOf]; omega
              · by_cases hk3 : d'.k = 3
                · rw [hk3] at hdk
                  clear hv
                  obtain ⟨j0, j1, j2, j3, j4, j5, j6⟩ := getE (HAT.out.keep HD.out.bel) k hlt d' HDE.out
                  have hc := HD.out.compact HG.out (by have := HEPK.out; have := HFW.out.l; omega) d'.st
                  go_wp2_with fail
                  refine hc.mono ?_
                  rintro e w2 ⟨rfl, FA2, FD2, P2, rs2, D2, G2, Q2⟩
                  have DC2 := HC.out.step Q2
                  obtain ⟨E1, E2⟩ := ccx_any n s d'.st
                  obtain ⟨x2, hx2⟩ : ∃ x2, ccx n s d'.st = x2 := ⟨_, rfl⟩
                  rw [hx2] at E1 E2 D2 G2
                  have HEP2 : Hid (x2.ep ≤ k + 1) := Hid_of (by have := HEPK.out; omega)
                  rw [← E1] at DC2
                  have HL2 := Hid_of (LS.mk D2 G2 DC2 HLO.out)
                  clear hc D2 G2 DC2 Q2 E1 E2 hx2 y0 y1 y2 y3 z0 z1 z2 z3 j0 j1 j2 j3 j4 j5 j6
                  obtain ⟨j0, j1, j2, j3, j4, j5, j6⟩ := getE (HAT.out.keep HL2.out.du.bel) k hlt d' HDE.out
                  have hc := HL2.out.du.d.crash d'.kp 0 HKP'.out
                  go_wp2_with fail
                  refine hc.mono ?_
                  rintro e w3 ⟨FD3, rfl, d3, q3⟩
                  have g3 := HL2.out.gd.crash d'.kp
                  have hc2 := open_any d3 g3
                  have HQ3 := Hid_of (Fr.ofCh q3)
                  have HG3 := Hid_of g3
                  clear hc q3 d3 g3 j0 j1 j2 j3 j4 j5 j6
                  go_wp2_with fail
                  refine hc2.mono ?_
                  rintro e w4 ⟨b4, ab4, FA4, rfl, du4, hb4, hlo4, hA4⟩
                  have L4 := HL2.out.again HQ3.out HG3.out du4 hb4 hlo4 hA4
                  have HL4 := Hid_of L4
                  clear hc2 du4 hb4 hlo4 hA4 L4 HQ3 HG3
                  go_wp2
                  go_roundw
                  case rel => exact ⟨k + 1, b4, { x2 with cut := false }, by omega, rfl, by go_num, rfl, HEP2.out, ⟨_, _, _, _, _, _, _, HL4.out⟩⟩
                  case measure => simp [intOf]; omega
                · by_cases hk4 : d'.k = 4
                  · rw [hk4] at hdk
                    clear hv
                    obtain ⟨j0, j1, j2, j3, j4, j5, j6⟩ := getE (HAT.out.keep HD.out.bel) k hlt d' HDE.out
                    obtain ⟨x2, hx2⟩ : ∃ x2, s = x2 := ⟨_, rfl⟩
                    have HEP2 : Hid (x2.ep ≤ k + 1) := Hid_of (by rw [← hx2]; exact HEP1.out)
                    have HL2 : Hid (LS w1 W1 FA FD b ab db n P x2 rs B ad c) := Hid_of (by rw [← hx2]; exact ⟨HD.out, HG.out, HC.out, HLO.out⟩)
                    clear hx2 y0 y1 y2 y3 z0 z1 z2 z3
                    have hc := HL2.out.du.d.crash d'.kp 0 HKP'.out
                    go_wp2_with fail
                    refine hc.mono ?_
                    rintro e w3 ⟨FD3, rfl, d3, q3⟩
                    have g3 := HL2.out.gd.crash d'.kp
                    have hc2 := open_any d3 g3
                    have HQ3 := Hid_of (Fr.ofCh q3)
                    have HG3 := Hid_of g3
                    clear hc q3 d3 g3 j0 j1 j2 j3 j4 j5 j6
                    go_wp2_with fail
                    refine hc2.mono ?_
                    rintro e w4 ⟨b4, ab4, FA4, rfl, du4, hb4, hlo4, hA4⟩
                    have L4 := HL2.out.again HQ3.out HG3.out du4 hb4 hlo4 hA4
                    have HL4 := Hid_of L4
                    clear hc2 du4 hb4 hlo4 hA4 L4 HQ3 HG3
                    go_wp2
                    go_roundw
                    case rel => exact ⟨k + 1, b4, { x2 with cut := false }, by omega, rfl, by go_num, rfl, HEP2.out, ⟨_, _, _, _, _, _, _, HL4.out⟩⟩
                    case measure => simp [intOf]; omega
                  · have e0 : (d'.k == 0) = false := by simpa using hk0
                    have e1 : (d'.k == 1) = false := by simpa using hk1
                    have e2 : (d'.k == 2) = false := by simpa using hk2
                    have e3 : (d'.k == 3) = false := by simpa using hk3
                    have e4 : (d'.k == 4) = false := by simpa using hk4
                    have HL := Hid_of (LS.mk HD.out HG.out HC.out HLO.out)
                    clear y0 y1 y2 y3 z0 z1 z2 z3
                    go_wp2
                    go_roundw
                    case rel => exact ⟨k + 1, b, s, by omega, rfl, by go_num, HCUT.out, HEP1.out, ⟨_, _, _, _, _, _, _, HL.out⟩⟩
                    case measure => simp [intOf]; omega
        · obtain rfl : k = l.length := by omega
          obtain ⟨FA, FD, ab, P, rs, ad, c, hL⟩ := hli
          obtain ⟨j0, j1, j2, j3, j4, j5, j6⟩ := (row7 (bel_row HRD.out hL.du.bel)).1
          have hc := hL.du.compact hL.gd (by have := HFW.out.l; omega) d.st
          have HL0 := Hid_of hL
          clear hL hcut hep
          go_wp2_with fail
          refine hc.mono ?_
          rintro e w2 ⟨rfl, FA2, FD2, P2, rs2, D2, G2, Q2⟩
          have DC2 := HL0.out.dc.step Q2
          obtain ⟨E1, E2⟩ := ccx_any n s d.st
          obtain ⟨x2, hx2⟩ : ∃ x2, ccx n s d.st = x2 := ⟨_, rfl⟩
          rw [hx2] at E1 E2 D2 G2
          rw [← E1] at DC2
          have HL2 := Hid_of (LS.mk D2 G2 DC2 HL0.out.lo)
          clear hc D2 G2 DC2 Q2 E1 E2 hx2 HL0 j0 j1 j2 j3 j4 j5 j6
          obtain ⟨j0, j1, j2, j3, j4, j5, j6⟩ := (row7 (bel_row HRD.out HL2.out.du.bel)).1
          have hc := HL2.out.du.d.crash d.kp 0 HKP.out
          go_wp2_with fail
          refine hc.mono ?_
          rintro e w3 ⟨FD3, rfl, d3, q3⟩
          have g3 := HL2.out.gd.crash d.kp
          have hc2 := open_any d3 g3
          have HQ3 := Hid_of (Fr.ofCh q3)
          have HG3 := Hid_of g3
          clear hc q3 d3 g3 j0 j1 j2 j3 j4 j5 j6
          go_wp2_with fail
          refine hc2.mono ?_
          rintro e w4 ⟨b4, ab4, FA4, rfl, du4, hb4, hlo4, hA4⟩
          have L4 := HL2.out.again HQ3.out HG3.out du4 hb4 hlo4 hA4
          have HL4 := Hid_of L4
          clear hc2 du4 hb4 hlo4 hA4 L4 HQ3 HG3
          clear HL2
          obtain ⟨a, ha⟩ : ∃ a, x2.a = a := ⟨_, rfl⟩
          have HPM : Hid (∀ W, Below w4.heap.size w4 W → Calls Tryz.prog 16 #[ptr b4] W fun e w' => e = .returned (bV x2.a.p) ∧ Below W.heap.size W w') := fun W hW => (HL4.out.du.keep hW).promised
          have HBS : Hid (∀ W, Below w4.heap.size w4 W → Calls Tryz.prog 17 #[ptr b4] W fun e w' => e = .returned (.int .i64 x2.a.base) ∧ w' = W) := fun W hW => (HL4.out.du.keep hW).base
          have HVT : Hid (∀ W, Below w4.heap.size w4 W → Calls Tryz.prog 21 #[ptr b4, .int .i64 0] W fun e w' => ∃ ad c, e = .returned (.slice ad x2.a.l.length c) ∧ XL vl w' ad c x2.a.l ∧ (∀ j, blk ad j → W.heap.size ≤ j ∧ j < w'.heap.size) ∧ Below W.heap.size W w') := fun W hW => by
            have h := (HL4.out.du.keep hW).votes 0
            rw [HL4.out.gd.aok.1.all] at h
            exact h
          have HLE : Hid (x2.a.l.length ≤ 1000000) := Hid_of (by have := HL4.out.dc.ln; simp only at this; omega)
          have HS : Hid (∀ w', Below w4.heap.size w4 w' → (w'.cell? ⟨B, 0, none⟩ = some (.int .i64 x2.a.p.i) ∧ w'.cell? ⟨B, 1, none⟩ = some (.int .i64 x2.a.p.t) ∧ w'.cell? ⟨B, 2, none⟩ = some (.int .i64 x2.a.base) ∧ w'.cell? ⟨B, 3, none⟩ = some (.slice ad x2.a.l.length c))) := fun w' hb => (row4 (bel_row HL4.out.dc.bx.row hb)).1
          have hq := eqs36 x2.a.p.i x2.a.p.t
          clear ha
          go_wp2_with fail
          refine wp_region_held_drew (S := fun wq => Below (w4).heap.size (w4) wq) (by kernel_rfl) (Below.drew (Below.refl _ _)) (fun hHeld => ?_)
          refine wpAnyH_take (i := 0) (oi := ?p0r) (v := ?v0r) ?o0r (by kernel_rfl) (by kernel_rfl) (by kernel_rfl) ?q0r ?y0r hHeld ?r0r
          case o0r => simp only [List.getElem?_toArray, List.getElem?_cons_zero]; rfl
          case q0r => exact fun _ _ _ h => h
          case y0r => (refine Or.inl ⟨rfl, ?_⟩; intro wq hq; obtain ⟨z0, z1, z2, z3⟩ := HS.out wq hq; go_simp; try with_reducible rfl)
          simp only [Act.put, List.setIfInBounds_toArray, List.set_cons_zero, List.set_cons_succ]
          refine wpAnyH_take (i := 2) (oi := ?p2r) (v := ?v2r) ?o2r (by kernel_rfl) (by kernel_rfl) (by kernel_rfl) ?q2r ?y2r hHeld ?r2r
          case o2r => simp only [List.getElem?_toArray, List.getElem?_cons_succ, List.getElem?_cons_zero]; rfl
          case q2r => exact fun _ _ _ h => h
          case y2r => (refine Or.inl ⟨rfl, ?_⟩; intro wq hq; obtain ⟨z0, z1, z2, z3⟩ := HS.out wq hq; go_simp; try with_reducible rfl)
          simp only [Act.put, List.setIfInBounds_toArray, List.set_cons_zero, List.set_cons_succ]
          refine wpAnyH_take (i := 3) (oi := ?p3r) (v := ?v3r) ?o3r (by kernel_rfl) (by kernel_rfl) (by kernel_rfl) ?q3r ?y3r hHeld ?r3r
          case o3r => simp only [List.getElem?_toArray, List.getElem?_cons_succ, List.getElem?_cons_zero]; rfl
          case q3r => exact fun _ _ _ h => h
          case y3r => (refine Or.inl ⟨rfl, ?_⟩; intro wq hq; obtain ⟨z0, z1, z2, z3⟩ := HS.out wq hq; go_simp; try with_reducible rfl)
          simp only [Act.put, List.setIfInBounds_toArray, List.set_cons_zero, List.set_cons_succ]
          refine wpAnyH_ready (rs := [1]) (by kernel_rfl) (by simp) ?_
          refine AllReadyH.cons (o := ?p1r) ?o1r ?s1r AllReadyH.nil
          case o1r => simp only [List.getElem?_toArray, List.getElem?_cons_succ, List.getElem?_cons_zero]; rfl
          intro K hK
          go_simp
          refine (HPM.out _ hHeld).mono ?_
          rintro e v1 ⟨rfl, hb1⟩
          have B1 : Below w4.heap.size w4 v1 := hHeld.trans (hb1.mono hHeld.size)
          refine hK.out _ _ B1 (fun hHeld => ?_)
          clear hK K
          refine wpAnyH_take (i := 4) (oi := ?p4r) (v := ?v4r) ?o4r (by kernel_rfl) (by kernel_rfl) (by kernel_rfl) ?q4r ?y4r hHeld ?r4r
          case o4r => simp only [List.getElem?_toArray, List.getElem?_cons_succ, List.getElem?_cons_zero]; rfl
          case q4r => exact fun _ _ _ h => h
          case y4r => (refine Or.inl ⟨rfl, ?_⟩; intro wq hq; obtain ⟨z0, z1, z2, z3⟩ := HS.out wq hq; go_simp; try with_reducible rfl)
          simp only [Act.put, List.setIfInBounds_toArray, List.set_cons_zero, List.set_cons_succ]
          refine wpAnyH_take (i := 5) (oi := ?p5r) (v := ?v5r) ?o5r (by kernel_rfl) (by kernel_rfl) (by kernel_rfl) ?q5r ?y5r hHeld ?r5r
          case o5r => simp only [List.getElem?_toArray, List.getElem?_cons_succ, List.getElem?_cons_zero]; rfl
          case q5r => exact fun _ _ _ h => h
          case y5r => (refine Or.inl ⟨rfl, ?_⟩; intro wq hq; obtain ⟨z0, z1, z2, z3⟩ := HS.out wq hq; go_simp; try with_reducible rfl)
          simp only [Act.put, List.setIfInBounds_toArray, List.set_cons_zero, List.set_cons_succ]
          refine wpAnyH_take (i := 6) (oi := ?p6r) (v := ?v6r) ?o6r (by kernel_rfl) (by kernel_rfl) (by kernel_rfl) ?q6r ?y6r hHeld ?r6r
          case o6r => simp only [List.getElem?_toArray, List.getElem?_cons_succ, List.getElem?_cons_zero]; rfl
          case q6r => exact fun _ _ _ h => h
          case y6r => (refine Or.inl ⟨rfl, ?_⟩; intro wq hq; obtain ⟨z0, z1, z2, z3⟩ := HS.out wq hq; go_simp; try with_reducible rfl)
          simp only [Act.put, List.setIfInBounds_toArray, List.set_cons_zero, List.set_cons_succ]
          refine wpAnyH_take (i := 8) (oi := ?p8r) (v := ?v8r) ?o8r (by kernel_rfl) (by kernel_rfl) (by kernel_rfl) ?q8r ?y8r hHeld ?r8r
          case o8r => simp only [List.getElem?_toArray, List.getElem?_cons_succ, List.getElem?_cons_zero]; rfl
          case q8r => exact fun _ _ _ h => h
          case y8r => (refine Or.inl ⟨rfl, ?_⟩; intro wq hq; obtain ⟨z0, z1, z2, z3⟩ := HS.out wq hq; go_simp; try with_reducible rfl)
          simp only [Act.put, List.setIfInBounds_toArray, List.set_cons_zero, List.set_cons_succ]
          refine wpAnyH_take (i := 9) (oi := ?p9r) (v := ?v9r) ?o9r (by kernel_rfl) (by kernel_rfl) (by kernel_rfl) ?q9r ?y9r hHeld ?r9r
          case o9r => simp only [List.getElem?_toArray, List.getElem?_cons_succ, List.getElem?_cons_zero]; rfl
          case q9r => exact fun _ _ _ h => h
          case y9r => (refine Or.inl ⟨rfl, ?_⟩; intro wq hq; obtain ⟨z0, z1, z2, z3⟩ := HS.out wq hq; go_simp; try with_reducible rfl)
          simp only [Act.put, List.setIfInBounds_toArray, List.set_cons_zero, List.set_cons_succ]
          refine wpAnyH_ready (rs := [7]) (by kernel_rfl) (by simp) ?_
          refine AllReadyH.cons (o := ?p7r) ?o7r ?s7r AllReadyH.nil
          case o7r => simp only [List.getElem?_toArray, List.getElem?_cons_succ, List.getElem?_cons_zero]; rfl
          intro K hK
          go_simp
          refine (HBS.out _ hHeld).mono ?_
          rintro e v7 ⟨rfl, rfl⟩
          refine hK.out _ _ hHeld (fun hHeld => ?_)
          clear hK K
          refine wpAnyH_take (i := 10) (oi := ?p10r) (v := ?v10r) ?o10r (by kernel_rfl) (by kernel_rfl) (by kernel_rfl) ?q10r ?y10r hHeld ?r10r
          case o10r => simp only [List.getElem?_toArray, List.getElem?_cons_succ, List.getElem?_cons_zero]; rfl
          case q10r => exact fun _ _ _ h => h
          case y10r => (refine Or.inl ⟨rfl, ?_⟩; intro wq hq; obtain ⟨z0, z1, z2, z3⟩ := HS.out wq hq; go_simp; try with_reducible rfl)
          simp only [Act.put, List.setIfInBounds_toArray, List.set_cons_zero, List.set_cons_succ]
          refine wpAnyH_take (i := 11) (oi := ?p11r) (v := ?v11r) ?o11r (by kernel_rfl) (by kernel_rfl) (by kernel_rfl) ?q11r ?y11r hHeld ?r11r
          case o11r => simp only [List.getElem?_toArray, List.getElem?_cons_succ, List.getElem?_cons_zero]; rfl
          case q11r => exact fun _ _ _ h => h
          case y11r => (refine Or.inl ⟨rfl, ?_⟩; intro wq hq; obtain ⟨z0, z1, z2, z3⟩ := HS.out wq hq; go_simp; try with_reducible rfl)
          simp only [Act.put, List.setIfInBounds_toArray, List.set_cons_zero, List.set_cons_succ]
          refine wpAnyH_take (i := 12) (oi := ?p12r) (v := ?v12r) ?o12r (by kernel_rfl) (by kernel_rfl) (by kernel_rfl) ?q12r ?y12r hHeld ?r12r
          case o12r => simp only [List.getElem?_toArray, List.getElem?_cons_succ, List.getElem?_cons_zero]; rfl
          case q12r => exact fun _ _ _ h => h
          case y12r => (refine Or.inl ⟨rfl, ?_⟩; intro wq hq; obtain ⟨z0, z1, z2, z3⟩ := HS.out wq hq; go_simp; try with_reducible rfl)
          simp only [Act.put, List.setIfInBounds_toArray, List.set_cons_zero, List.set_cons_succ]
          refine wpAnyH_take (i := 13) (oi := ?p13r) (v := ?v13r) ?o13r (by kernel_rfl) (by kernel_rfl) (by kernel_rfl) ?q13r ?y13r hHeld ?r13r
          case o13r => simp only [List.getElem?_toArray, List.getElem?_cons_succ, List.getElem?_cons_zero]; rfl
          case q13r => exact fun _ _ _ h => h
          case y13r => (refine Or.inl ⟨rfl, ?_⟩; intro wq hq; obtain ⟨z0, z1, z2, z3⟩ := HS.out wq hq; go_simp; try with_reducible rfl)
          simp only [Act.put, List.setIfInBounds_toArray, List.set_cons_zero, List.set_cons_succ]
          refine wpAnyH_take (i := 15) (oi := ?p15r) (v := ?v15r) ?o15r (by kernel_rfl) (by kernel_rfl) (by kernel_rfl) ?q15r ?y15r hHeld ?r15r
          case o15r => simp only [List.getElem?_toArray, List.getElem?_cons_succ, List.getElem?_cons_zero]; rfl
          case q15r => exact fun _ _ _ h => h
          case y15r => (refine Or.inl ⟨rfl, ?_⟩; intro wq hq; obtain ⟨z0, z1, z2, z3⟩ := HS.out wq hq; go_simp; try with_reducible rfl)
          simp only [Act.put, List.setIfInBounds_toArray, List.set_cons_zero, List.set_cons_succ]
          refine wpAnyH_take (i := 16) (oi := ?p16r) (v := ?v16r) ?o16r (by kernel_rfl) (by kernel_rfl) (by kernel_rfl) ?q16r ?y16r hHeld ?r16r
          case o16r => simp only [List.getElem?_toArray, List.getElem?_cons_succ, List.getElem?_cons_zero]; rfl
          case q16r => exact fun _ _ _ h => h
          case y16r => (refine Or.inl ⟨rfl, ?_⟩; intro wq hq; obtain ⟨z0, z1, z2, z3⟩ := HS.out wq hq; go_simp; try with_reducible rfl)
          simp only [Act.put, List.setIfInBounds_toArray, List.set_cons_zero, List.set_cons_succ]
          refine wpAnyH_ready (rs := [14]) (by kernel_rfl) (by simp) ?_
          refine AllReadyH.cons (o := ?p14r) ?o14r ?s14r AllReadyH.nil
          case o14r => simp only [List.getElem?_toArray, List.getElem?_cons_succ, List.getElem?_cons_zero]; rfl
          intro K hK
          go_simp
          refine (HVT.out _ hHeld).mono ?_
          rintro e v14 ⟨a14, c14, rfl, hx14, _, hb14⟩
          have B14 : Below w4.heap.size w4 v14 := hHeld.trans (hb14.mono hHeld.size)
          refine hK.out _ _ B14 (fun hHeld => ?_)
          clear hK K
          refine wpAnyH_ready (rs := [17]) (by kernel_rfl) (by simp) ?_
          refine AllReadyH.cons (o := ?p17r) ?o17r ?s17r AllReadyH.nil
          case o17r => simp only [List.getElem?_toArray, List.getElem?_cons_succ, List.getElem?_cons_zero]; rfl
          intro K hK
          go_simp
          refine (Na.same_any a14 c14 ad c _ _ (HLE.out) hx14.at' (HL4.out.keep hHeld).dc.xb.xl.at').mono ?_
          rintro e v17 ⟨rfl, hb17⟩
          have B17 : Below w4.heap.size w4 v17 := hHeld.trans (hb17.mono hHeld.size)
          refine hK.out _ _ B17 (fun hHeld => ?_)
          clear hK K
          refine wpAnyH_take (i := 18) (oi := ?p18r) (v := ?v18r) ?o18r (by kernel_rfl) (by kernel_rfl) (by kernel_rfl) ?q18r ?y18r hHeld ?r18r
          case o18r => simp only [List.getElem?_toArray, List.getElem?_cons_succ, List.getElem?_cons_zero]; rfl
          case q18r => exact fun _ _ _ h => h
          case y18r => (refine Or.inl ⟨rfl, ?_⟩; intro wq hq; obtain ⟨z0, z1, z2, z3⟩ := HS.out wq hq; go_simp; try with_reducible rfl)
          simp only [Act.put, List.setIfInBounds_toArray, List.set_cons_zero, List.set_cons_succ]
          refine wpAnyH_take (i := 19) (oi := ?p19r) (v := ?v19r) ?o19r (by kernel_rfl) (by kernel_rfl) (by kernel_rfl) ?q19r ?y19r hHeld ?r19r
          case o19r => simp only [List.getElem?_toArray, List.getElem?_cons_succ, List.getElem?_cons_zero]; rfl
          case q19r => exact fun _ _ _ h => h
          case y19r => (refine Or.inl ⟨rfl, ?_⟩; intro wq hq; obtain ⟨z0, z1, z2, z3⟩ := HS.out wq hq; go_simp; try with_reducible rfl)
          simp only [Act.put, List.setIfInBounds_toArray, List.set_cons_zero, List.set_cons_succ]
          refine wpAnyH_ready (rs := [20]) (by kernel_rfl) (by simp) ?_
          refine AllReadyH.cons (o := ?p20r) ?o20r ?s20r AllReadyH.nil
          case o20r => simp only [List.getElem?_toArray, List.getElem?_cons_succ, List.getElem?_cons_zero]; rfl
          intro K hK
          go_simp
          refine (awake_any _).mono ?_
          rintro e v20 ⟨rfl, hb20⟩
          have B20 : Below w4.heap.size w4 v20 := hHeld.trans (hb20.mono hHeld.size)
          refine hK.out _ _ B20 (fun hHeld => ?_)
          clear hK K
          refine wpAnyH_take (i := 21) (oi := ?p21r) (v := ?v21r) ?o21r (by kernel_rfl) (by kernel_rfl) (by kernel_rfl) ?q21r ?y21r hHeld ?r21r
          case o21r => simp only [List.getElem?_toArray, List.getElem?_cons_succ, List.getElem?_cons_zero]; rfl
          case q21r => exact fun _ _ _ h => h
          case y21r => (refine Or.inl ⟨rfl, ?_⟩; intro wq hq; obtain ⟨z0, z1, z2, z3⟩ := HS.out wq hq; go_simp; try with_reducible rfl)
          simp only [Act.put, List.setIfInBounds_toArray, List.set_cons_zero, List.set_cons_succ]
          refine wpAnyH_take (i := 22) (oi := ?p22r) (v := ?v22r) ?o22r (by kernel_rfl) (by kernel_rfl) (by kernel_rfl) ?q22r ?y22r hHeld ?r22r
          case o22r => simp only [List.getElem?_toArray, List.getElem?_cons_succ, List.getElem?_cons_zero]; rfl
          case q22r => exact fun _ _ _ h => h
          case y22r => (refine Or.inl ⟨rfl, ?_⟩; intro wq hq; obtain ⟨z0, z1, z2, z3⟩ := HS.out wq hq; go_simp; try with_reducible rfl)
          simp only [Act.put, List.setIfInBounds_toArray, List.set_cons_zero, List.set_cons_succ]
          refine wpAnyH_done (by kernel_rfl) ?_ _
          have HBF := Hid_of (bel_up HBW.out (bel_up HL4.out.du.bel hHeld (Nat.le_refl _)) (Nat.le_refl _))
          go_wp2
          go_ret
          exact ⟨rfl, HBF.out⟩
end Go.Proofs.YtlnedgjikkhplaaGreat.Du
