/- States rise; servers are apart. -/
import Derived.Test.YtgcfpihfoekllaaFO

namespace Go.Proofs.Ytgcfpihfoekllaa

open Go.RowKit

set_option linter.unusedVariables false

open Sm (S)

set_option maxRecDepth 100000 in
set_option maxHeartbeats 4000000 in
theorem order_walk (a : Option Addr) (c : Nat) (l : List D) (w : World) (hm : l.length ≤ maxLen) (hat : AtL dl w a l) (hok : ∀ d ∈ l, DOk w d) : Calls Try.prog 4 #[.slice a l.length c] w fun e w' => e = .returned (.bool true) ∧ Below w.heap.size w w' := by
  have hfw := few_any a c l w hm hat hok
  have HAT := Hid_of hat
  have HOK := Hid_of hok
  clear hat hok
  cases hf : few l with
  | false =>
    rw [show fewN l = 0 by unfold fewN; rw [hf]; rfl] at hfw
    clear hf HAT HOK
    go_enter Try.func4, Try.ntmps4
    go_wp2_with fail
    refine hfw.mono ?_
    rintro e w1 ⟨rfl, hb1⟩
    have HB1 := Hid_of hb1
    have haw := awake_any w1
    clear hfw hb1
    go_wp2_with fail
    refine haw.mono ?_
    rintro e w2 ⟨rfl, hb2⟩
    have HB2 := Hid_of (bel_up HB1.out hb2 (Nat.le_refl _))
    clear haw hb2 HB1
    go_wp2
    go_ret
    exact ⟨rfl, HB2.out⟩
  | true =>
    rw [show fewN l = 1 by unfold fewN; rw [hf]; rfl] at hfw
    have HF := Hid_of hf
    have h80 := (few_eq.1 hf).1
    clear hf
    go_enter Try.func4, Try.ntmps4
    go_wp2_with fail
    refine hfw.mono ?_
    rintro e w1 ⟨rfl, hb1⟩
    have HB1 := Hid_of hb1
    have hnw := new_any w1
    clear hfw hb1
    go_wp2_with fail
    refine hnw.mono ?_
    rintro e w2 ⟨rfl, hb2, hm2⟩
    have HT2 : Hid (Two w1 w2 w1.heap.size (fun _ => False) (.slice none 0 0) []) := Hid_of (two_new hb2 hm2)
    have HAT1 := Hid_of (HAT.out.keep HB1.out)
    have HOK1 : Hid (∀ d ∈ l, DOk w1 d) := Hid_of fun d hd => (HOK.out d hd).keep HB1.out
    obtain ⟨bm, hbm⟩ : ∃ bm, w1.heap.size = bm := ⟨_, rfl⟩
    rw [hbm] at HT2 ⊢
    clear hnw hb2 hm2 hbm HAT HOK
    go_wp2
    go_loopw [4, 5, 6] (fun v wv i wr => ∃ (k : Nat) (K : Nat → Prop) (m : List S) (aw : Option Addr) (cw : Nat) (ws : List E), k ≤ l.length ∧ i = .int .i64 k ∧ wv = .slice aw ws.length cw ∧ Hid (Two w1 wr bm K v m ∧ AtL stl wr aw ws ∧ (∀ q, blk aw q → K q) ∧ ws.map (·.s) = m)) (fun _ _ i _ => l.length - (intOf i).toNat)
    case atStart => exact ⟨0, _, _, none, 0, [], by omega, rfl, rfl, Hid_of ⟨HT2.out, AtL.nil _ _, fun q hq => (by obtain ⟨_, _, h⟩ := hq; cases h), rfl⟩⟩
    case round =>
      obtain ⟨k, K, m, aw, cw, ws, hk, rfl, rfl, HTT⟩ := hrel
      clear HT2
      by_cases hlt : k < l.length
      · have hki : (k : Int) < (l.length : Int) := by omega
        have HT := Hid_of HTT.out.1
        obtain ⟨b', off, rfl, c0, c1, c2, c3, c4⟩ := (HAT1.out.keep HT.out.ai.1).getD k hlt
        have hdo := two_do HT.out HF.out HAT1.out HOK1.out k hlt
        have HUP : Hid (Sm.up m (ddD m l[k])) := Hid_of (Sm.up_dd HT.out.g _ _ _ _ _)
        have HWS := Hid_of HTT.out.2
        clear HT HTT
        generalize ddD m l[k] = m2 at *
        generalize l[k] = x at *
        go_wp2_with fail
        refine hdo.mono ?_
        rintro e w5 ⟨u, K', rfl, hT, hsk, hKK⟩
        have HWA := Hid_of (HWS.out.1.sk HWS.out.2.1 hsk)
        have HWM := Hid_of HWS.out.2.2
        have HA5 := Hid_of hT.ai
        have HT5 := Hid_of hT
        obtain ⟨ds, hD, hdm⟩ := hT.dm
        subst hdm
        have hn : ds.length ≤ 4096 := by have := HT5.out.g.ln; rwa [List.length_map] at this
        have hml : (ds.map (·.s)).length = ds.length := by simp
        have HML := Hid_of hml
        obtain ⟨⟨av, cv, rfl, hxv, -⟩, -, -⟩ := hD
        clear hdo hT hsk hKK c0 c1 c2 c3 c4 hxv HWS hml
        go_wp2
        go_loopw [9, 10] (fun nv i wr => ∃ (j : Nat) (es : List E), j ≤ ds.length ∧ i = .int .i64 j ∧ Hid (es.map (·.s) = (ds.map (·.s)).take j) ∧ OwnL stl 34 wr w5.heap.size nv es ∧ Hid (Below w5.heap.size w5 wr)) (fun _ i _ => ds.length - (intOf i).toNat)
        case atStart => exact ⟨0, [], by omega, rfl, Hid_of (by simp), OwnL.nil _ _ _, Hid_of (Below.refl _ _)⟩
        case round =>
          obtain ⟨j, es, hj, rfl, HTK0, hnw, HB⟩ := hrel
          obtain ⟨nv, hnv⟩ : ∃ nv, nv = u9 := ⟨_, rfl⟩
          rw [← hnv] at hnw ⊢
          clear hnv
          have HNW := Hid_of hnw
          clear hnw
          have hel : es.length = j := by
            have := congrArg List.length HTK0.out
            rw [List.length_map, List.length_take, HML.out] at this
            omega
          have HEL := Hid_of hel
          clear hel
          by_cases hlj : j < ds.length
          · have hji : (j : Int) < (ds.length : Int) := by omega
            have hjm : j < (ds.map (·.s)).length := by rw [HML.out]; exact hlj
            have hget := (HA5.out.keep HB.out).get (j : Int)
            have HAJ : Hid (Sm.at' (ds.map (·.s)) j = some (ds.map (fun x : E => x.s))[j]) := Hid_of (by
              obtain ⟨q, e⟩ := Sm.at_in (m := ds.map (·.s)) (i := (j : Int)) (by omega) (by omega)
              rw [e]
              simp only [Int.toNat_natCast])
            obtain ⟨g1, g2, g3⟩ := HT5.out.g.get hjm
            have HAPB : Hid (Mb.apB (ds.map (fun x : E => x.s))[j].l = true) := Hid_of (Mb.apB_eq.2 g3.2.2.2.2.2)
            have hl8 := g3.2.2.2.2.1
            have HTK1 : Hid (∀ y : E, y.s = (ds.map (fun x : E => x.s))[j] → (es ++ [y]).map (·.s) = (ds.map (·.s)).take (j + 1)) := Hid_of fun y hy => by
              rw [List.map_append, HTK0.out, List.take_succ_eq_append_getElem hjm, List.map_singleton, hy]
            have HUJ : Hid (∀ (hw : j < ws.length), ws[j].s.st ≤ (ds.map (fun x : E => x.s))[j].st) := Hid_of fun hw => by
              obtain ⟨s2, e2, h2⟩ := HUP.out j ws[j].s (by rw [← HWM.out]; simp [hw])
              rw [List.getElem?_eq_getElem hjm] at e2
              rw [Option.some.inj e2]
              exact h2
            clear HTK0 g3
            generalize (ds.map (fun x : E => x.s))[j] = s7 at *
            go_wp2_with fail
            refine hget.mono ?_
            rintro e w7 ⟨hb7, hcase⟩
            obtain ⟨a7, c7, rfl, ho7⟩ : ∃ a c, e = .returned (.tuple #[eV ⟨j, s7, a, c⟩, .bool true]) ∧ OwnL il 3 w7 wr.heap.size (.slice a s7.l.length c) s7.l := by
              rcases hcase with ⟨q, _⟩ | ⟨s, a, c, q, q2, q3⟩
              · rw [HAJ.out] at q; cases q
              · rw [HAJ.out] at q
                have := Option.some.inj q
                subst this
                exact ⟨a, c, q2, q3⟩
            obtain ⟨W8, HW8⟩ : ∃ W8, Hid (w7.alloc (eO ⟨j, s7, a7, c7⟩) = W8) := ⟨_, rfl⟩
            have hb8 := bel1 w7 (eO ⟨j, s7, a7, c7⟩)
            have hr8 := heap_alloc_last w7 (eO ⟨j, s7, a7, c7⟩)
            rw [HW8.out] at hb8 hr8
            obtain ⟨B, HBB⟩ : ∃ B, Hid (w7.heap.size = B) := ⟨_, rfl⟩
            rw [HBB.out] at hr8
            have HB78 := Hid_of (bel_up hb7 hb8 (Nat.le_refl _))
            have HB8 := Hid_of (bel_up HB.out HB78.out (Nat.le_refl _))
            have HR8 := Hid_of hr8
            obtain ⟨a7', c7', hv7, hx7, hk7⟩ := ho7.at
            simp only [Value.slice.injEq] at hv7
            obtain ⟨rfl, -, rfl⟩ := hv7
            have HX7 := Hid_of (hx7.keep hb8)
            have HTK := Hid_of (HTK1.out ⟨j, s7, a7, c7⟩ rfl)
            have HAP : Hid (∀ W : World, Below W8.heap.size W8 W → Calls Try.prog 22 #[.slice a7 s7.l.length c7] W fun e w' => e = .returned (.bool true) ∧ Below W.heap.size W w') := Hid_of fun W hW => by
              have := refApart_any a7 c7 s7.l W (by omega) (HX7.out.le) (HX7.out.at'.keep hW)
              rw [HAPB.out] at this
              exact this
            have d1 : decide (s7.st < 1) = false := decide_eq_false (by omega)
            have d2 : decide (3 < s7.st) = false := decide_eq_false (by omega)
            have HWA8 := Hid_of (HWA.out.keep HB8.out)
            clear hget hb7 hcase ho7 hb8 hr8 hx7 hk7 HAJ HTK1 hjm g1 g2 HAPB hl8 HB HX7
            by_cases hw : j < ws.length
            · have d3 : decide ((j : Int) < (ws.length : Int)) = true := decide_eq_true (by omega)
              have hwi : (j : Int) < (ws.length : Int) := by omega
              have hle := HUJ.out hw
              have d4 : decide (s7.st < ws[j].s.st) = false := decide_eq_false (by omega)
              obtain ⟨b8, o8, rfl, z0, z1, z2, z3, z4, z5⟩ := HWA8.out.getE j hw
              have HS : Hid (∀ wq : World, Below W8.heap.size W8 wq → wq.cell? ⟨B, 0, none⟩ = some (.int .i64 j) ∧ wq.cell? ⟨B, 0 + 1, none⟩ = some (.int .i64 s7.st) ∧ wq.cell? ⟨B, 0 + 2, none⟩ = some (.int .i64 s7.ow) ∧ wq.cell? ⟨B, 0 + 3, none⟩ = some (.int .i64 s7.ep) ∧ wq.cell? ⟨B, 0 + 4, none⟩ = some (.int .i64 s7.ln) ∧ wq.cell? ⟨B, 0 + 5, none⟩ = some (.slice a7 s7.l.length c7) ∧ wq.cell? ⟨b8, o8 + j * 6 + 1, none⟩ = some (.int .i64 ws[j].s.st)) := Hid_of fun wq hq => by
                obtain ⟨q0, q1, q2, q3, q4, q5⟩ := (row_cells (y := ⟨j, s7, a7, c7⟩) (bel_row HR8.out hq)).1
                obtain ⟨b9, o9, e9, r0, r1, r2, r3, r4, r5⟩ := (HWA8.out.keep hq).getE j hw
                simp only [Option.some.injEq, Addr.mk.injEq] at e9
                obtain ⟨rfl, rfl, -⟩ := e9
                exact ⟨q0, q1, q2, q3, q4, q5, r1⟩
              clear hle z0 z1 z2 z3 z4 z5 HUJ HWA8
              generalize ws[j] = y at *
              go_upto_region 18 with fail
              rw [HW8.out, HBB.out]
              clear HW8 HBB
              refine wp_region_held_drew (S := fun wq => Below (W8).heap.size (W8) wq) (by kernel_rfl) (Below.drew (Below.refl _ _)) (fun hHeld => ?_)
              obtain ⟨wdr, hwdr⟩ : ∃ wd, W8.drew = wd := ⟨_, rfl⟩
              have hBwd : Below W8.heap.size W8 wdr := by rw [← hwdr]; exact Below.drew (Below.refl _ _)
              rw [hwdr] at hHeld ⊢
              clear hwdr
              refine Tm 0 ?p0r ?v0r hHeld ?r0r
              simp only [Act.put, Pa, Pb, Pc]
              refine Tm 1 ?p1r ?v1r hHeld ?r1r
              simp only [Act.put, Pa, Pb, Pc]
              refine Tm 2 ?p2r ?v2r hHeld ?r2r
              simp only [Act.put, Pa, Pb, Pc]
              refine Tm 3 ?p3r ?v3r hHeld ?r3r
              simp only [Act.put, Pa, Pb, Pc]
              refine Tk 4 ?p4r ?v4r ?y4r hHeld ?r4r
              case y4r => intro wq hq; obtain ⟨y0, y1, y2, y3, y4, y5, z1⟩ := HS.out wq hq; go_simp; try with_reducible rfl
              simp only [Act.put, Pa, Pb, Pc]
              refine Tm 5 ?p5r ?v5r hHeld ?r5r
              simp only [Act.put, Pa, Pb, Pc]
              refine Tm 6 ?p6r ?v6r hHeld ?r6r
              simp only [Act.put, Pa, Pb, Pc]
              refine Tm 7 ?p7r ?v7r hHeld ?r7r
              simp only [Act.put, Pa, Pb, Pc]
              refine Tm 8 ?p8r ?v8r hHeld ?r8r
              simp only [Act.put, Pa, Pb, Pc]
              refine Tk 9 ?p9r ?v9r ?y9r hHeld ?r9r
              case y9r => intro wq hq; obtain ⟨y0, y1, y2, y3, y4, y5, z1⟩ := HS.out wq hq; go_simp; try with_reducible rfl
              simp only [Act.put, Pa, Pb, Pc]
              refine Tm 10 ?p10r ?v10r hHeld ?r10r
              simp only [Act.put, Pa, Pb, Pc]
              refine Tm 11 ?p11r ?v11r hHeld ?r11r
              simp only [Act.put, Pa, Pb, Pc]
              refine Tm 12 ?p12r ?v12r hHeld ?r12r
              simp only [Act.put, Pa, Pb, Pc]
              refine Tm 13 ?p13r ?v13r hHeld ?r13r
              simp only [Act.put, Pa, Pb, Pc]
              refine Tm 14 ?p14r ?v14r hHeld ?r14r
              simp only [Act.put, Pa, Pb, Pc]
              refine Tm 15 ?p15r ?v15r hHeld ?r15r
              simp only [Act.put, Pa, Pb, Pc]
              refine Tm 16 ?p16r ?v16r hHeld ?r16r
              simp only [Act.put, Pa, Pb, Pc]
              refine Tm 17 ?p17r ?v17r hHeld ?r17r
              simp only [Act.put, Pa, Pb, Pc]
              refine Tm 18 ?p18r ?v18r hHeld ?r18r
              simp only [Act.put, Pa, Pb, Pc]
              refine Tk 19 ?p19r ?v19r ?y19r hHeld ?r19r
              case y19r => intro wq hq; obtain ⟨y0, y1, y2, y3, y4, y5, z1⟩ := HS.out wq hq; go_simp; try with_reducible rfl
              simp only [Act.put, Pa, Pb, Pc]
              refine Tm 20 ?p20r ?v20r hHeld ?r20r
              simp only [Act.put, Pa, Pb, Pc]
              refine Tm 21 ?p21r ?v21r hHeld ?r21r
              simp only [Act.put, Pa, Pb, Pc]
              refine Tm 22 ?p22r ?v22r hHeld ?r22r
              simp only [Act.put, Pa, Pb, Pc]
              refine Tm 23 ?p23r ?v23r hHeld ?r23r
              simp only [Act.put, Pa, Pb, Pc]
              refine Tk 24 ?p24r ?v24r ?y24r hHeld ?r24r
              case y24r => intro wq hq; obtain ⟨y0, y1, y2, y3, y4, y5, z1⟩ := HS.out wq hq; go_simp; try with_reducible rfl
              simp only [Act.put, Pa, Pb, Pc]
              refine Tm 25 ?p25r ?v25r hHeld ?r25r
              simp only [Act.put, Pa, Pb, Pc]
              refine Tm 26 ?p26r ?v26r hHeld ?r26r
              simp only [Act.put, Pa, Pb, Pc]
              refine Tm 27 ?p27r ?v27r hHeld ?r27r
              simp only [Act.put, Pa, Pb, Pc]
              refine Tm 28 ?p28r ?v28r hHeld ?r28r
              simp only [Act.put, Pa, Pb, Pc]
              refine Tm 29 ?p29r ?v29r hHeld ?r29r
              simp only [Act.put, Pa, Pb, Pc]
              refine Tk 30 ?p30r ?v30r ?y30r hHeld ?r30r
              case y30r => intro wq hq; obtain ⟨y0, y1, y2, y3, y4, y5, z1⟩ := HS.out wq hq; go_simp; try with_reducible rfl
              simp only [Act.put, Pa, Pb, Pc]
              refine Rd 31 ?p31r ?s31r
              intro K hK
              go_simp
              have hap := HAP.out _ hHeld
              refine hap.mono ?_
              rintro e w9 ⟨rfl, hb9⟩
              have hb9' := bel_up hHeld hb9 (Nat.le_refl _)
              clear hap hb9
              refine hK.out _ _ hb9' (fun hHeld => ?_)
              clear hK K
              refine Tm 32 ?p32r_31 ?v32r_31 hHeld ?r32r_31
              simp only [Act.put, Pa, Pb, Pc]
              refine Tm 33 ?p33r_31 ?v33r_31 hHeld ?r33r_31
              simp only [Act.put, Pa, Pb, Pc]
              refine wpAnyH_done (by kernel_rfl) ?_ _
              have HB9 := Hid_of (bel_up HB8.out hb9' (Nat.le_refl _))
              have HR9 := bel_row HR8.out hb9'
              obtain ⟨⟨y0, y1, y2, y3, y4, y5⟩, -⟩ := row_cells HR9
              obtain ⟨a', c', w10, HAE, ho10, hb10⟩ := append_oneE (HNW.out.keep (bel_up HB78.out hb9' (Nat.le_refl _))) HB9.out ⟨j, s7, a7, c7⟩ (by have := HEL.out; omega)
              have HB10 := Hid_of hb10
              have HO10 := Hid_of ho10
              clear hHeld hb9' HAP HS HB8 HR8 HB78 HR9 HNW hb10 ho10 HB9
              go_wp2_with (at_builtin; refine wpList_append_known rfl _ _ 27 rfl _ _ rfl rfl _ _ (HAE.out _) ?_)
              go_roundw
              case rel => exact ⟨j + 1, es ++ [⟨j, s7, a7, c7⟩], by omega, by go_num, HTK, HO10.out, HB10⟩
              case measure => simp [intOf]; omega
            · have d3 : decide ((j : Int) < (ws.length : Int)) = false := decide_eq_false (by omega)
              have d3n : decide (j < ws.length) = false := decide_eq_false hw
              have HS : Hid (∀ wq : World, Below W8.heap.size W8 wq → wq.cell? ⟨B, 0, none⟩ = some (.int .i64 j) ∧ wq.cell? ⟨B, 0 + 1, none⟩ = some (.int .i64 s7.st) ∧ wq.cell? ⟨B, 0 + 2, none⟩ = some (.int .i64 s7.ow) ∧ wq.cell? ⟨B, 0 + 3, none⟩ = some (.int .i64 s7.ep) ∧ wq.cell? ⟨B, 0 + 4, none⟩ = some (.int .i64 s7.ln) ∧ wq.cell? ⟨B, 0 + 5, none⟩ = some (.slice a7 s7.l.length c7)) := Hid_of fun wq hq => (row_cells (y := ⟨j, s7, a7, c7⟩) (bel_row HR8.out hq)).1
              clear HUJ HWA8 hw
              go_upto_region 18 with fail
              rw [HW8.out, HBB.out]
              clear HW8 HBB
              refine wp_region_held_drew (S := fun wq => Below (W8).heap.size (W8) wq) (by kernel_rfl) (Below.drew (Below.refl _ _)) (fun hHeld => ?_)
              obtain ⟨wds, hwds⟩ : ∃ wd, W8.drew = wd := ⟨_, rfl⟩
              have hBwd : Below W8.heap.size W8 wds := by rw [← hwds]; exact Below.drew (Below.refl _ _)
              rw [hwds] at hHeld ⊢
              clear hwds
              refine Tm 0 ?p0s ?v0s hHeld ?r0s
              simp only [Act.put, Pa, Pb, Pc]
              refine Tm 1 ?p1s ?v1s hHeld ?r1s
              simp only [Act.put, Pa, Pb, Pc]
              refine Tm 2 ?p2s ?v2s hHeld ?r2s
              simp only [Act.put, Pa, Pb, Pc]
              refine Tm 3 ?p3s ?v3s hHeld ?r3s
              simp only [Act.put, Pa, Pb, Pc]
              refine Tk 4 ?p4s ?v4s ?y4s hHeld ?r4s
              case y4s => intro wq hq; obtain ⟨y0, y1, y2, y3, y4, y5⟩ := HS.out wq hq; go_simp; try with_reducible rfl
              simp only [Act.put, Pa, Pb, Pc]
              refine Tm 5 ?p5s ?v5s hHeld ?r5s
              simp only [Act.put, Pa, Pb, Pc]
              refine Tm 6 ?p6s ?v6s hHeld ?r6s
              simp only [Act.put, Pa, Pb, Pc]
              refine Tm 7 ?p7s ?v7s hHeld ?r7s
              simp only [Act.put, Pa, Pb, Pc]
              refine Tm 8 ?p8s ?v8s hHeld ?r8s
              simp only [Act.put, Pa, Pb, Pc]
              refine Tk 9 ?p9s ?v9s ?y9s hHeld ?r9s
              case y9s => intro wq hq; obtain ⟨y0, y1, y2, y3, y4, y5⟩ := HS.out wq hq; go_simp; try with_reducible rfl
              simp only [Act.put, Pa, Pb, Pc]
              refine Tm 10 ?p10s ?v10s hHeld ?r10s
              simp only [Act.put, Pa, Pb, Pc]
              refine Tm 11 ?p11s ?v11s hHeld ?r11s
              simp only [Act.put, Pa, Pb, Pc]
              refine Tm 12 ?p12s ?v12s hHeld ?r12s
              simp only [Act.put, Pa, Pb, Pc]
              refine Tm 13 ?p13s ?v13s hHeld ?r13s
              simp only [Act.put, Pa, Pb, Pc]
              refine Tm 14 ?p14s ?v14s hHeld ?r14s
              simp only [Act.put, Pa, Pb, Pc]
              refine Tm 15 ?p15s ?v15s hHeld ?r15s
              simp only [Act.put, Pa, Pb, Pc]
              refine Tm 16 ?p16s ?v16s hHeld ?r16s
              simp only [Act.put, Pa, Pb, Pc]
              refine Tm 17 ?p17s ?v17s hHeld ?r17s
              simp only [Act.put, Pa, Pb, Pc]
              refine Ts 18 ?p18s hHeld ?r18s
              simp only [Act.put, Pa, Pb, Pc]
              refine Ts 19 ?p19s hHeld ?r19s
              simp only [Act.put, Pa, Pb, Pc]
              refine Ts 20 ?p20s hHeld ?r20s
              simp only [Act.put, Pa, Pb, Pc]
              refine Ts 21 ?p21s hHeld ?r21s
              simp only [Act.put, Pa, Pb, Pc]
              refine Ts 22 ?p22s hHeld ?r22s
              simp only [Act.put, Pa, Pb, Pc]
              refine Ts 23 ?p23s hHeld ?r23s
              simp only [Act.put, Pa, Pb, Pc]
              refine Ts 24 ?p24s hHeld ?r24s
              simp only [Act.put, Pa, Pb, Pc]
              refine Ts 25 ?p25s hHeld ?r25s
              simp only [Act.put, Pa, Pb, Pc]
              refine Tm 26 ?p26s ?v26s hHeld ?r26s
              simp only [Act.put, Pa, Pb, Pc]
              refine Tm 27 ?p27s ?v27s hHeld ?r27s
              simp only [Act.put, Pa, Pb, Pc]
              refine Tm 28 ?p28s ?v28s hHeld ?r28s
              simp only [Act.put, Pa, Pb, Pc]
              refine Tm 29 ?p29s ?v29s hHeld ?r29s
              simp only [Act.put, Pa, Pb, Pc]
              refine Tk 30 ?p30s ?v30s ?y30s hHeld ?r30s
              case y30s => intro wq hq; obtain ⟨y0, y1, y2, y3, y4, y5⟩ := HS.out wq hq; go_simp; try with_reducible rfl
              simp only [Act.put, Pa, Pb, Pc]
              refine Rd 31 ?p31s ?s31s
              intro K hK
              go_simp
              have hap := HAP.out _ hHeld
              refine hap.mono ?_
              rintro e w9 ⟨rfl, hb9⟩
              have hb9' := bel_up hHeld hb9 (Nat.le_refl _)
              clear hap hb9
              refine hK.out _ _ hb9' (fun hHeld => ?_)
              clear hK K
              refine Tm 32 ?p32s_31 ?v32s_31 hHeld ?r32s_31
              simp only [Act.put, Pa, Pb, Pc]
              refine Tm 33 ?p33s_31 ?v33s_31 hHeld ?r33s_31
              simp only [Act.put, Pa, Pb, Pc]
              refine wpAnyH_done (by kernel_rfl) ?_ _
              have HB9 := Hid_of (bel_up HB8.out hb9' (Nat.le_refl _))
              have HR9 := bel_row HR8.out hb9'
              obtain ⟨⟨y0, y1, y2, y3, y4, y5⟩, -⟩ := row_cells HR9
              obtain ⟨a', c', w10, HAE, ho10, hb10⟩ := append_oneE (HNW.out.keep (bel_up HB78.out hb9' (Nat.le_refl _))) HB9.out ⟨j, s7, a7, c7⟩ (by have := HEL.out; omega)
              have HB10 := Hid_of hb10
              have HO10 := Hid_of ho10
              clear hHeld hb9' HAP HS HB8 HR8 HB78 HR9 HNW hb10 ho10 HB9
              go_wp2_with (at_builtin; refine wpList_append_known rfl _ _ 27 rfl _ _ rfl rfl _ _ (HAE.out _) ?_)
              go_roundw
              case rel => exact ⟨j + 1, es ++ [⟨j, s7, a7, c7⟩], by omega, by go_num, HTK, HO10.out, HB10⟩
              case measure => simp [intOf]; omega
          · have hjn : j = ds.length := by omega
            subst hjn
            obtain ⟨an, cn, rfl, hxn, hkn⟩ := HNW.out.at
            have HN : Hid (Two w1 wr bm (Kn K' w5 wr) (.slice av ds.length cv) (ds.map (·.s)) ∧ AtL stl wr an es ∧ (∀ q, blk an q → Kn K' w5 wr q) ∧ es.map (·.s) = ds.map (·.s)) := Hid_of ⟨HT5.out.kn HB.out, hxn.at', fun q hq => .inr ⟨(hkn q hq).1, (hkn q hq).2.2⟩, by rw [HTK0.out, List.take_of_length_le (by rw [HML.out]; exact Nat.le_refl _)]⟩
            clear HNW hxn hkn HB HTK0 HT5 HA5 HWA HWM HUP HML
            go_wp2
            go_roundw
            case rel => exact ⟨k + 1, _, _, an, cn, es, by omega, by go_num, rfl, HN⟩
            case measure => simp [intOf]; omega
      · have hkn : k = l.length := by omega
        subst hkn
        have haw := awake_any wr
        have HBW := Hid_of (bel_up HB1.out HTT.out.1.ai.1 (Nat.le_refl _))
        clear HTT HAT1 HOK1 HF
        go_wp2_with fail
        refine haw.mono ?_
        rintro e w9 ⟨rfl, hb9⟩
        have HB9 := Hid_of (bel_up HBW.out hb9 (Nat.le_refl _))
        clear haw hb9 HBW
        go_wp2
        go_ret
        exact ⟨rfl, HB9.out⟩

end Go.Proofs.Ytgcfpihfoekllaa
