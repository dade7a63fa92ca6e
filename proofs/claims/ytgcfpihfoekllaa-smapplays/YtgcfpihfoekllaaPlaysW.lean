/- Anything done to stripes. -/
import Derived.Test.YtgcfpihfoekllaaFF
import Derived.Test.YtgcfpihfoekllaaFG

namespace Go.Proofs.Ytgcfpihfoekllaa

open Go.RowKit

set_option linter.unusedVariables false

open Sm (S)

set_option maxRecDepth 100000 in
set_option maxHeartbeats 4000000 in
theorem plays_walk (a : Option Addr) (c : Nat) (l : List D) (w : World) (hm : l.length ≤ maxLen) (hat : AtL dl w a l) (hok : ∀ d ∈ l, DOk w d) : Calls Try.prog 3 #[.slice a l.length c] w fun e w' => e = .returned (.bool true) ∧ Below w.heap.size w w' := by
  have hfw := few_any a c l w hm hat hok
  have HAT := Hid_of hat
  have HOK := Hid_of hok
  clear hat hok
  cases hf : few l with
  | false =>
    rw [show fewN l = 0 by unfold fewN; rw [hf]; rfl] at hfw
    clear hf HAT HOK
    go_enter Try.func3, Try.ntmps3
    go_wp2_with fail
    refine hfw.mono ?_
    rintro e w1 ⟨rfl, hb1⟩
    have HB1 := Hid_of hb1
    have haw := awake_any w1
    clear hfw hb1
    go_wp2_with fail
    refine haw.mono ?_
    rintro e w2 ⟨rfl, hb2⟩
    have HB2 := Hid_of (bel_up HB1.out hb2 (Nat.le_refl _))
    clear haw hb2 HB1
    go_wp2
    go_ret
    exact ⟨rfl, HB2.out⟩
  | true =>
    rw [show fewN l = 1 by unfold fewN; rw [hf]; rfl] at hfw
    have HF := Hid_of hf
    have h80 := (few_eq.1 hf).1
    clear hf
    go_enter Try.func3, Try.ntmps3
    go_wp2_with fail
    refine hfw.mono ?_
    rintro e w1 ⟨rfl, hb1⟩
    have HB1 := Hid_of hb1
    have hnw := new_any w1
    clear hfw hb1
    go_wp2_with fail
    refine hnw.mono ?_
    rintro e w2 ⟨rfl, hb2, hm2⟩
    have HT2 : Hid (Two w1 w2 w1.heap.size (fun _ => False) (.slice none 0 0) []) := Hid_of (two_new hb2 hm2)
    have HAT1 := Hid_of (HAT.out.keep HB1.out)
    have HOK1 : Hid (∀ d ∈ l, DOk w1 d) := Hid_of fun d hd => (HOK.out d hd).keep HB1.out
    obtain ⟨bm, hbm⟩ : ∃ bm, w1.heap.size = bm := ⟨_, rfl⟩
    rw [hbm] at HT2 ⊢
    clear hnw hb2 hm2 hbm HAT HOK
    go_wp2
    go_loopw [4, 5] (fun v i wr => ∃ (k : Nat) (K : Nat → Prop) (m : List S), k ≤ l.length ∧ i = .int .i64 k ∧ Hid (Two w1 wr bm K v m)) (fun _ i _ => l.length - (intOf i).toNat)
    case atStart => exact ⟨0, _, _, by omega, rfl, HT2⟩
    case round =>
      obtain ⟨k, K, m, hk, rfl, HT⟩ := hrel
      clear HT2
      by_cases hlt : k < l.length
      · have hki : (k : Int) < (l.length : Int) := by omega
        have HDL : Hid (∀ W : World, Below w1.heap.size w1 W → ∃ b off, a = some ⟨b, off, none⟩ ∧ W.cell? ⟨b, off + k * 5, none⟩ = some (.int .i64 l[k].k) ∧ W.cell? ⟨b, off + k * 5 + 1, none⟩ = some (.int .i64 l[k].a) ∧ W.cell? ⟨b, off + k * 5 + 2, none⟩ = some (.int .i64 l[k].b) ∧ W.cell? ⟨b, off + k * 5 + 3, none⟩ = some (.int .i64 l[k].c) ∧ W.cell? ⟨b, off + k * 5 + 4, none⟩ = some (.slice l[k].sa l[k].l.length l[k].sc)) := Hid_of fun W hW => (HAT1.out.keep hW).getD k hlt
        obtain ⟨b', off, rfl, c0, c1, c2, c3, c4⟩ := HDL.out _ HT.out.ai.1
        have hdo := two_do HT.out HF.out HAT1.out HOK1.out k hlt
        clear HT
        generalize ddD m l[k] = m2 at *
        generalize l[k] = x at *
        go_wp2_with fail
        refine hdo.mono ?_
        rintro e w4 ⟨v', K', rfl, hT, -⟩
        have HT4 := Hid_of hT
        have hget := hT.ai.get x.a
        clear hdo hT c0 c1 c2 c3 c4
        obtain ⟨b9, o9, e9, c0, c1, c2, c3, c4⟩ := HDL.out _ HT4.out.ai.1
        simp only [Option.some.injEq, Addr.mk.injEq] at e9
        obtain ⟨rfl, rfl, -⟩ := e9
        go_wp2_with fail
        refine hget.mono ?_
        rintro e w5 ⟨hb5, hcase⟩
        obtain ⟨x1, bb, rfl, hat1, hcl, hlen⟩ : ∃ (x1 : E) (bb : Bool), e = .returned (.tuple #[eV x1, .bool bb]) ∧ AtL il w5 x1.a x1.s.l ∧ ((bb = false ∧ Sm.at' m2 x.a = none ∧ x1 = e0) ∨ (bb = true ∧ Sm.at' m2 x.a = some x1.s ∧ x1.id = x.a)) ∧ x1.s.l.length ≤ 1000000 := by
          rcases hcase with ⟨q1, q2⟩ | ⟨s, a, c, q1, q2, q3⟩
          · exact ⟨e0, false, q2, AtL.nil _ _, .inl ⟨rfl, q1, rfl⟩, by simp⟩
          · obtain ⟨a', c', hv, hx, -⟩ := q3.at
            simp only [Value.slice.injEq] at hv
            obtain ⟨rfl, -, rfl⟩ := hv
            refine ⟨⟨x.a, s, a, c⟩, true, q2, hx.at', .inr ⟨rfl, q1, rfl⟩, ?_⟩
            obtain ⟨-, -, hk, rfl⟩ := Sm.at_some q1
            have := (HT4.out.g.get hk).2.2.2.2.2.2.1
            show (m2[x.a.toNat]).l.length ≤ _
            omega
        obtain ⟨W6, HW6⟩ : ∃ W6, Hid (w5.alloc (eO x1) = W6) := ⟨_, rfl⟩
        have hb6 := bel1 w5 (eO x1)
        have hr6 := heap_alloc_last w5 (eO x1)
        rw [HW6.out] at hb6 hr6
        obtain ⟨B1, HB1'⟩ : ∃ B1, Hid (w5.heap.size = B1) := ⟨_, rfl⟩
        rw [HB1'.out] at hr6
        have HT6 := Hid_of ((HT4.out.keep hb5).keep hb6)
        have HR6 := Hid_of hr6
        have HX1 := Hid_of (hat1.keep hb6)
        have HCL := Hid_of hcl
        have hrg := refGet_any HT6.out.dm x.a
        clear hget hcase hb5 hb6 hr6 hat1 hcl HT4 c0 c1 c2 c3 c4
        obtain ⟨b9, o9, e9, c0, c1, c2, c3, c4⟩ := HDL.out _ HT6.out.ai.1
        simp only [Option.some.injEq, Addr.mk.injEq] at e9
        obtain ⟨rfl, rfl, -⟩ := e9
        go_upto_region 11 with fail
        rw [HW6.out, HB1'.out]
        clear HW6 HB1'
        go_wp2_with fail
        refine hrg.mono ?_
        rintro e w7 ⟨hb7, hcase⟩
        obtain ⟨x2, rfl, hat2, hid2, hs2⟩ : ∃ x2 : E, e = .returned (.tuple #[eV x2, .bool bb]) ∧ AtL il w7 x2.a x2.s.l ∧ x1.id = x2.id ∧ x1.s = x2.s := by
          rcases HCL.out with ⟨rfl, p1, rfl⟩ | ⟨rfl, p1, p2⟩
          · rcases hcase with ⟨q1, q2⟩ | ⟨s, a, c, q1, q2, q3⟩
            · exact ⟨e0, q2, AtL.nil _ _, rfl, rfl⟩
            · rw [p1] at q1; cases q1
          · rcases hcase with ⟨q1, q2⟩ | ⟨s, a, c, q1, q2, q3, -⟩
            · rw [p1] at q1; cases q1
            · rw [p1] at q1
              exact ⟨⟨x.a, s, a, c⟩, q2, q3, p2, Option.some.inj q1⟩
        obtain ⟨W8, HW8⟩ : ∃ W8, Hid (w7.alloc (eO x2) = W8) := ⟨_, rfl⟩
        have hb8 := bel1 w7 (eO x2)
        have hr8 := heap_alloc_last w7 (eO x2)
        rw [HW8.out] at hb8 hr8
        obtain ⟨B2, HB2'⟩ : ∃ B2, Hid (w7.heap.size = B2) := ⟨_, rfl⟩
        rw [HB2'.out] at hr8
        have HT8 := Hid_of ((HT6.out.keep hb7).keep hb8)
        have HR1 := Hid_of (bel_row (bel_row HR6.out hb7) hb8)
        have HR2 := Hid_of hr8
        have HSM : Hid (∀ W : World, Below W8.heap.size W8 W → Calls Try.prog 14 #[eV x1, eV x2] W fun e w' => e = .returned (.bool true) ∧ Below W.heap.size W w') := by
          have h1 := (HX1.out.keep hb7).keep hb8
          have h2 := hat2.keep hb8
          exact Hid_of fun W hW => same_any x1 x2 W hid2 hs2 hlen (h1.keep hW) (h2.keep hW)
        have hlm := HT8.out.g.ln
        have HL1 : Hid (∀ W : World, Below W8.heap.size W8 W → Calls Try.prog 16 #[.pointer (some ⟨bm, 0, none⟩), .int .i64 x.b] W (IdsOut W (Sm.ofSt m2 x.b))) := Hid_of fun W hW => (HT8.out.ai.keep hW).list x.b
        have HL2 : Hid (∀ W : World, Below W8.heap.size W8 W → Calls Try.prog 17 #[v', .int .i64 x.b] W (IdsOut W (Sm.ofSt m2 x.b))) := Hid_of fun W hW => refList_any (HT8.out.dm.keep hW) hlm x.b
        have HO1 : Hid (∀ W : World, Below W8.heap.size W8 W → Calls Try.prog 18 #[.pointer (some ⟨bm, 0, none⟩), .int .i64 x.c] W (IdsOut W (Sm.onSv m2 x.c))) := Hid_of fun W hW => (HT8.out.ai.keep hW).on x.c
        have HO2 : Hid (∀ W : World, Below W8.heap.size W8 W → Calls Try.prog 19 #[v', .int .i64 x.c] W (IdsOut W (Sm.onSv m2 x.c))) := Hid_of fun W hW => refOn_any (HT8.out.dm.keep hW) hlm (fun s hs => by have := (HT8.out.g.st s hs).2.2.2.2.2.2.1; omega) x.c
        have HLL1 : Hid ((Sm.ofSt m2 x.b).length ≤ 1000000) := Hid_of (by have := Sm.ids_len (Sm.isSt x.b) m2 m2.length; unfold Sm.ofSt; omega)
        have HLL2 : Hid ((Sm.onSv m2 x.c).length ≤ 1000000) := Hid_of (by have := Sm.ids_len (Sm.isOn x.c) m2 m2.length; unfold Sm.onSv; omega)
        have HS : Hid (∀ wq : World, Below W8.heap.size W8 wq → wq.cell? ⟨B1, 0, none⟩ = some (.int .i64 x1.id) ∧ wq.cell? ⟨B1, 0 + 1, none⟩ = some (.int .i64 x1.s.st) ∧ wq.cell? ⟨B1, 0 + 2, none⟩ = some (.int .i64 x1.s.ow) ∧ wq.cell? ⟨B1, 0 + 3, none⟩ = some (.int .i64 x1.s.ep) ∧ wq.cell? ⟨B1, 0 + 4, none⟩ = some (.int .i64 x1.s.ln) ∧ wq.cell? ⟨B1, 0 + 5, none⟩ = some (.slice x1.a x1.s.l.length x1.c) ∧ wq.cell? ⟨B2, 0, none⟩ = some (.int .i64 x2.id) ∧ wq.cell? ⟨B2, 0 + 1, none⟩ = some (.int .i64 x2.s.st) ∧ wq.cell? ⟨B2, 0 + 2, none⟩ = some (.int .i64 x2.s.ow) ∧ wq.cell? ⟨B2, 0 + 3, none⟩ = some (.int .i64 x2.s.ep) ∧ wq.cell? ⟨B2, 0 + 4, none⟩ = some (.int .i64 x2.s.ln) ∧ wq.cell? ⟨B2, 0 + 5, none⟩ = some (.slice x2.a x2.s.l.length x2.c) ∧ wq.cell? ⟨b', off + k * 5 + 2, none⟩ = some (.int .i64 x.b) ∧ wq.cell? ⟨b', off + k * 5 + 3, none⟩ = some (.int .i64 x.c)) := Hid_of fun wq hq => by
          obtain ⟨p0, p1, p2, p3, p4, p5⟩ := (row_cells (bel_row HR1.out hq)).1
          obtain ⟨s0, s1, s2, s3, s4, s5⟩ := (row_cells (bel_row HR2.out hq)).1
          obtain ⟨b9, o9, e9, -, -, c2, c3, -⟩ := HDL.out _ (HT8.out.keep hq).ai.1
          simp only [Option.some.injEq, Addr.mk.injEq] at e9
          obtain ⟨rfl, rfl, -⟩ := e9
          exact ⟨p0, p1, p2, p3, p4, p5, s0, s1, s2, s3, s4, s5, c2, c3⟩
        have hbb : (bb != bb) = false := by cases bb <;> rfl
        clear hrg hcase hb7 hb8 hr8 hat2 hid2 hs2 hlen HCL HX1 HT6 HR6 HR1 HR2 c0 c1 c2 c3 c4 hlm
        generalize Sm.ofSt m2 x.b = l1 at *
        generalize Sm.onSv m2 x.c = l2 at *
        go_upto_region 12 with fail
        rw [HW8.out, HB2'.out]
        clear HW8 HB2' HDL
        refine wp_region_held_drew (S := fun wq => Below (W8).heap.size (W8) wq) (by kernel_rfl) (Below.drew (Below.refl _ _)) (fun hHeld => ?_)
        obtain ⟨wdr, hwdr⟩ : ∃ wd, W8.drew = wd := ⟨_, rfl⟩
        have hBwd : Below W8.heap.size W8 wdr := by rw [← hwdr]; exact Below.drew (Below.refl _ _)
        rw [hwdr] at hHeld ⊢
        clear hwdr
        refine Tm 0 ?p0r ?v0r hHeld ?r0r
        simp only [Act.put, Pa, Pb, Pc]
        refine Tm 1 ?p1r ?v1r hHeld ?r1r
        simp only [Act.put, Pa, Pb, Pc]
        refine Tm 2 ?p2r ?v2r hHeld ?r2r
        simp only [Act.put, Pa, Pb, Pc]
        refine Tm 3 ?p3r ?v3r hHeld ?r3r
        simp only [Act.put, Pa, Pb, Pc]
        refine Tm 4 ?p4r ?v4r hHeld ?r4r
        simp only [Act.put, Pa, Pb, Pc]
        refine Tm 5 ?p5r ?v5r hHeld ?r5r
        simp only [Act.put, Pa, Pb, Pc]
        refine Tm 6 ?p6r ?v6r hHeld ?r6r
        simp only [Act.put, Pa, Pb, Pc]
        refine Tm 7 ?p7r ?v7r hHeld ?r7r
        simp only [Act.put, Pa, Pb, Pc]
        refine Tk 8 ?p8r ?v8r ?y8r hHeld ?r8r
        case y8r => intro wq hq; obtain ⟨y0, y1, y2, y3, y4, y5, z0, z1, z2, z3, z4, z5, q2, q3⟩ := HS.out wq hq; go_simp; try with_reducible rfl
        simp only [Act.put, Pa, Pb, Pc]
        refine Tk 9 ?p9r ?v9r ?y9r hHeld ?r9r
        case y9r => intro wq hq; obtain ⟨y0, y1, y2, y3, y4, y5, z0, z1, z2, z3, z4, z5, q2, q3⟩ := HS.out wq hq; go_simp; try with_reducible rfl
        simp only [Act.put, Pa, Pb, Pc]
        refine Rd 10 ?p10r ?s10r
        intro K hK
        go_simp
        refine (HSM.out _ hHeld).mono ?_
        rintro e w10 ⟨rfl, hb10⟩
        have hq10 := bel_up hHeld hb10 (Nat.le_refl _)
        clear hb10
        refine hK.out _ _ hq10 (fun hHeld => ?_)
        clear hK K
        refine Tm 11 ?p11r_10 ?v11r_10 hHeld ?r11r_10
        simp only [Act.put, Pa, Pb, Pc]
        refine Tm 12 ?p12r_10 ?v12r_10 hHeld ?r12r_10
        simp only [Act.put, Pa, Pb, Pc]
        refine Tm 13 ?p13r_10 ?v13r_10 hHeld ?r13r_10
        simp only [Act.put, Pa, Pb, Pc]
        refine Tm 14 ?p14r_10 ?v14r_10 hHeld ?r14r_10
        simp only [Act.put, Pa, Pb, Pc]
        refine Tm 15 ?p15r_10 ?v15r_10 hHeld ?r15r_10
        simp only [Act.put, Pa, Pb, Pc]
        refine Tm 16 ?p16r_10 ?v16r_10 hHeld ?r16r_10
        simp only [Act.put, Pa, Pb, Pc]
        refine Tm 17 ?p17r_10 ?v17r_10 hHeld ?r17r_10
        simp only [Act.put, Pa, Pb, Pc]
        refine Tm 18 ?p18r_10 ?v18r_10 hHeld ?r18r_10
        simp only [Act.put, Pa, Pb, Pc]
        refine Tk 19 ?p19r_10 ?v19r_10 ?y19r_10 hHeld ?r19r_10
        case y19r_10 => intro wq hq; obtain ⟨y0, y1, y2, y3, y4, y5, z0, z1, z2, z3, z4, z5, q2, q3⟩ := HS.out wq hq; go_simp; try with_reducible rfl
        simp only [Act.put, Pa, Pb, Pc]
        refine Tm 21 ?p21r_10 ?v21r_10 hHeld ?r21r_10
        simp only [Act.put, Pa, Pb, Pc]
        refine Tm 22 ?p22r_10 ?v22r_10 hHeld ?r22r_10
        simp only [Act.put, Pa, Pb, Pc]
        refine Tm 23 ?p23r_10 ?v23r_10 hHeld ?r23r_10
        simp only [Act.put, Pa, Pb, Pc]
        refine Tm 24 ?p24r_10 ?v24r_10 hHeld ?r24r_10
        simp only [Act.put, Pa, Pb, Pc]
        refine Tm 25 ?p25r_10 ?v25r_10 hHeld ?r25r_10
        simp only [Act.put, Pa, Pb, Pc]
        refine Tk 26 ?p26r_10 ?v26r_10 ?y26r_10 hHeld ?r26r_10
        case y26r_10 => intro wq hq; obtain ⟨y0, y1, y2, y3, y4, y5, z0, z1, z2, z3, z4, z5, q2, q3⟩ := HS.out wq hq; go_simp; try with_reducible rfl
        simp only [Act.put, Pa, Pb, Pc]
        refine Rd 20 ?p20r_10 ?s20r_10
        intro K hK
        go_simp
        refine (HL1.out _ hHeld).mono ?_
        rintro e w20 ⟨u20, rfl, ho20, hb20⟩
        have hq20 := bel_up hHeld hb20 (Nat.le_refl _)
        obtain ⟨a20, c20, rfl, hx20, -⟩ := ho20.at
        have HX20 := Hid_of hx20.at'
        clear hb20 ho20 hx20
        refine hK.out _ _ hq20 (fun hHeld => ?_)
        clear hK K
        refine Rd 27 ?p27r_10_20 ?s27r_10_20
        intro K hK
        go_simp
        refine (HL2.out _ hHeld).mono ?_
        rintro e w27 ⟨u27, rfl, ho27, hb27⟩
        have hq27 := bel_up hHeld hb27 (Nat.le_refl _)
        obtain ⟨a27, c27, rfl, hx27, -⟩ := ho27.at
        have HX27 := Hid_of hx27.at'
        have HX20 := Hid_of (HX20.out.keep hb27)
        clear hb27 ho27 hx27
        refine hK.out _ _ hq27 (fun hHeld => ?_)
        clear hK K
        refine Rd 28 ?p28r_10_20_27 ?s28r_10_20_27
        intro K hK
        go_simp
        refine (ints_same (c1 := c20) (c2 := c27) HLL1.out HX20.out HX27.out).mono ?_
        rintro e w28 ⟨rfl, hb28⟩
        have hq28 := bel_up hHeld hb28 (Nat.le_refl _)
        clear hb28 HX20 HX27
        refine hK.out _ _ hq28 (fun hHeld => ?_)
        clear hK K
        refine Tm 29 ?p29r_10_20_27_28 ?v29r_10_20_27_28 hHeld ?r29r_10_20_27_28
        simp only [Act.put, Pa, Pb, Pc]
        refine Tm 30 ?p30r_10_20_27_28 ?v30r_10_20_27_28 hHeld ?r30r_10_20_27_28
        simp only [Act.put, Pa, Pb, Pc]
        refine Tm 31 ?p31r_10_20_27_28 ?v31r_10_20_27_28 hHeld ?r31r_10_20_27_28
        simp only [Act.put, Pa, Pb, Pc]
        refine Tm 32 ?p32r_10_20_27_28 ?v32r_10_20_27_28 hHeld ?r32r_10_20_27_28
        simp only [Act.put, Pa, Pb, Pc]
        refine Tm 33 ?p33r_10_20_27_28 ?v33r_10_20_27_28 hHeld ?r33r_10_20_27_28
        simp only [Act.put, Pa, Pb, Pc]
        refine Tm 34 ?p34r_10_20_27_28 ?v34r_10_20_27_28 hHeld ?r34r_10_20_27_28
        simp only [Act.put, Pa, Pb, Pc]
        refine Tm 35 ?p35r_10_20_27_28 ?v35r_10_20_27_28 hHeld ?r35r_10_20_27_28
        simp only [Act.put, Pa, Pb, Pc]
        refine Tm 36 ?p36r_10_20_27_28 ?v36r_10_20_27_28 hHeld ?r36r_10_20_27_28
        simp only [Act.put, Pa, Pb, Pc]
        refine Tk 37 ?p37r_10_20_27_28 ?v37r_10_20_27_28 ?y37r_10_20_27_28 hHeld ?r37r_10_20_27_28
        case y37r_10_20_27_28 => intro wq hq; obtain ⟨y0, y1, y2, y3, y4, y5, z0, z1, z2, z3, z4, z5, q2, q3⟩ := HS.out wq hq; go_simp; try with_reducible rfl
        simp only [Act.put, Pa, Pb, Pc]
        refine Tm 39 ?p39r_10_20_27_28 ?v39r_10_20_27_28 hHeld ?r39r_10_20_27_28
        simp only [Act.put, Pa, Pb, Pc]
        refine Tm 40 ?p40r_10_20_27_28 ?v40r_10_20_27_28 hHeld ?r40r_10_20_27_28
        simp only [Act.put, Pa, Pb, Pc]
        refine Tm 41 ?p41r_10_20_27_28 ?v41r_10_20_27_28 hHeld ?r41r_10_20_27_28
        simp only [Act.put, Pa, Pb, Pc]
        refine Tm 42 ?p42r_10_20_27_28 ?v42r_10_20_27_28 hHeld ?r42r_10_20_27_28
        simp only [Act.put, Pa, Pb, Pc]
        refine Tm 43 ?p43r_10_20_27_28 ?v43r_10_20_27_28 hHeld ?r43r_10_20_27_28
        simp only [Act.put, Pa, Pb, Pc]
        refine Tk 44 ?p44r_10_20_27_28 ?v44r_10_20_27_28 ?y44r_10_20_27_28 hHeld ?r44r_10_20_27_28
        case y44r_10_20_27_28 => intro wq hq; obtain ⟨y0, y1, y2, y3, y4, y5, z0, z1, z2, z3, z4, z5, q2, q3⟩ := HS.out wq hq; go_simp; try with_reducible rfl
        simp only [Act.put, Pa, Pb, Pc]
        refine Rd 38 ?p38r_10_20_27_28 ?s38r_10_20_27_28
        intro K hK
        go_simp
        refine (HO1.out _ hHeld).mono ?_
        rintro e w38 ⟨u38, rfl, ho38, hb38⟩
        have hq38 := bel_up hHeld hb38 (Nat.le_refl _)
        obtain ⟨a38, c38, rfl, hx38, -⟩ := ho38.at
        have HX38 := Hid_of hx38.at'
        clear hb38 ho38 hx38
        refine hK.out _ _ hq38 (fun hHeld => ?_)
        clear hK K
        refine Rd 45 ?p45r_10_20_27_28_38 ?s45r_10_20_27_28_38
        intro K hK
        go_simp
        refine (HO2.out _ hHeld).mono ?_
        rintro e w45 ⟨u45, rfl, ho45, hb45⟩
        have hq45 := bel_up hHeld hb45 (Nat.le_refl _)
        obtain ⟨a45, c45, rfl, hx45, -⟩ := ho45.at
        have HX45 := Hid_of hx45.at'
        have HX38 := Hid_of (HX38.out.keep hb45)
        clear hb45 ho45 hx45
        refine hK.out _ _ hq45 (fun hHeld => ?_)
        clear hK K
        refine Rd 46 ?p46r_10_20_27_28_38_45 ?s46r_10_20_27_28_38_45
        intro K hK
        go_simp
        refine (ints_same (c1 := c38) (c2 := c45) HLL2.out HX38.out HX45.out).mono ?_
        rintro e w46 ⟨rfl, hb46⟩
        have hq46 := bel_up hHeld hb46 (Nat.le_refl _)
        clear hb46 HX38 HX45
        refine hK.out _ _ hq46 (fun hHeld => ?_)
        clear hK K
        refine Tm 47 ?p47r_10_20_27_28_38_45_46 ?v47r_10_20_27_28_38_45_46 hHeld ?r47r_10_20_27_28_38_45_46
        simp only [Act.put, Pa, Pb, Pc]
        refine Tm 48 ?p48r_10_20_27_28_38_45_46 ?v48r_10_20_27_28_38_45_46 hHeld ?r48r_10_20_27_28_38_45_46
        simp only [Act.put, Pa, Pb, Pc]
        refine wpAnyH_done (by kernel_rfl) ?_ _
        have HN : Hid (Two w1 w46 bm K' v' m2) := Hid_of (HT8.out.keep hHeld)
        clear hHeld HSM HL1 HL2 HO1 HO2 HS HT8
        go_wp2
        go_roundw
        case rel => exact ⟨k + 1, K', m2, by omega, by go_num, HN⟩
        case measure => simp [intOf]; omega
      · have hkn : k = l.length := by omega
        subst hkn
        obtain ⟨v', hv'⟩ : ∃ v', v' = u4 := ⟨_, rfl⟩
        rw [← hv'] at HT ⊢
        clear hv'
        have htx := HT.out.ai.text
        have HTT := Hid_of HT.out
        clear HT HAT1 HOK1 HF
        generalize hgt : ofL (Sm.txt m) = tx at htx
        have HGT := Hid_of hgt
        clear hgt
        go_wp2_with fail
        refine htx.mono ?_
        rintro e w5 ⟨rfl, hb5⟩
        have HT5 := Hid_of (HTT.out.keep hb5)
        have hrt := refText_any HT5.out.dm HT5.out.g
        rw [HGT.out] at hrt
        clear htx hb5 HTT HGT
        go_wp2_with fail
        refine hrt.mono ?_
        rintro e w6 ⟨rfl, hb6⟩
        have haw := awake_any w6
        have HBW := Hid_of (bel_up HB1.out (HT5.out.keep hb6).ai.1 (Nat.le_refl _))
        clear hrt hb6 HT5
        go_wp2_with fail
        refine haw.mono ?_
        rintro e w9 ⟨rfl, hb9⟩
        have HB9 := Hid_of (bel_up HBW.out hb9 (Nat.le_refl _))
        clear haw hb9 HBW
        go_wp2
        go_ret
        exact ⟨rfl, HB9.out⟩

end Go.Proofs.Ytgcfpihfoekllaa
