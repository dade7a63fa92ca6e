/- What an owner began is freed with it. -/
import Derived.Test.YtgcfpihfoekllaaFF

namespace Go.Proofs.Ytgcfpihfoekllaa

open Go.RowKit

set_option linter.unusedVariables false

open Sm (S)

set_option maxRecDepth 100000 in
set_option maxHeartbeats 4000000 in
theorem drop_walk (a : Option Addr) (c : Nat) (l : List D) (o : Int) (w : World) (hm : l.length ≤ maxLen) (hat : AtL dl w a l) (hok : ∀ d ∈ l, DOk w d) : Calls Try.prog 6 #[.slice a l.length c, .int .i64 o] w fun e w' => e = .returned (.bool true) ∧ Below w.heap.size w w' := by
  have hfw := few_any a c l w hm hat hok
  have HAT := Hid_of hat
  have HOK := Hid_of hok
  clear hat hok
  cases hf : few l with
  | false =>
    rw [show fewN l = 0 by unfold fewN; rw [hf]; rfl] at hfw
    clear hf HAT HOK
    go_enter Try.func6, Try.ntmps6
    go_wp2_with fail
    refine hfw.mono ?_
    rintro e w1 ⟨rfl, hb1⟩
    have HB1 := Hid_of hb1
    have haw := awake_any w1
    clear hfw hb1
    go_wp2_with fail
    refine haw.mono ?_
    rintro e w2 ⟨rfl, hb2⟩
    have HB2 := Hid_of (bel_up HB1.out hb2 (Nat.le_refl _))
    clear haw hb2 HB1
    go_wp2
    go_ret
    exact ⟨rfl, HB2.out⟩
  | true =>
    rw [show fewN l = 1 by unfold fewN; rw [hf]; rfl] at hfw
    have HF := Hid_of hf
    have h80 := (few_eq.1 hf).1
    clear hf
    go_enter Try.func6, Try.ntmps6
    go_wp2_with fail
    refine hfw.mono ?_
    rintro e w1 ⟨rfl, hb1⟩
    have HB1 := Hid_of hb1
    have hnw := new_any w1
    clear hfw hb1
    go_wp2_with fail
    refine hnw.mono ?_
    rintro e w2 ⟨rfl, hb2, hm2⟩
    have HT2 : Hid (Two w1 w2 w1.heap.size (fun _ => False) (.slice none 0 0) []) := Hid_of (two_new hb2 hm2)
    have HAT1 := Hid_of (HAT.out.keep HB1.out)
    have HOK1 : Hid (∀ d ∈ l, DOk w1 d) := Hid_of fun d hd => (HOK.out d hd).keep HB1.out
    obtain ⟨bm, hbm⟩ : ∃ bm, w1.heap.size = bm := ⟨_, rfl⟩
    rw [hbm] at HT2 ⊢
    clear hnw hb2 hm2 hbm HAT HOK
    go_wp2
    go_loopw [6, 7] (fun v i wr => ∃ (k : Nat) (K : Nat → Prop) (m : List S), k ≤ l.length ∧ i = .int .i64 k ∧ Hid (Two w1 wr bm K v m)) (fun _ i _ => l.length - (intOf i).toNat)
    case atStart => exact ⟨0, _, _, by omega, rfl, HT2⟩
    case round =>
      obtain ⟨k, K, m, hk, rfl, HT⟩ := hrel
      clear HT2
      by_cases hlt : k < l.length
      · have hki : (k : Int) < (l.length : Int) := by omega
        obtain ⟨b', off, rfl, c0, c1, c2, c3, c4⟩ := (HAT1.out.keep HT.out.ai.1).getD k hlt
        have hdo := two_do HT.out HF.out HAT1.out HOK1.out k hlt
        clear HT
        generalize ddD m l[k] = m2 at *
        generalize l[k] = x at *
        go_wp2_with fail
        refine hdo.mono ?_
        rintro e w4 ⟨u, K', rfl, hT, -⟩
        have HT4 := Hid_of hT
        clear hdo hT c0 c1 c2 c3 c4
        go_wp2
        go_roundw
        case rel => exact ⟨k + 1, K', m2, by omega, by go_num, HT4⟩
        case measure => simp [intOf]; omega
      · have hkn : k = l.length := by omega
        subst hkn
        have hdr := HT.out.ai.drop o
        have HDM := Hid_of HT.out.dm
        have HG := Hid_of HT.out.g
        clear HT HAT1 HOK1 HF
        obtain ⟨v', hv'⟩ : ∃ v', v' = u6 := ⟨_, rfl⟩
        rw [← hv'] at HDM ⊢
        clear hv'
        go_wp2_with fail
        refine hdr.mono ?_
        rintro e w5 ⟨u, rfl, ho5, ha5, hs5⟩
        have HDM5 := Hid_of (HDM.out.sk hs5)
        have HA5 := Hid_of ha5
        obtain ⟨au, cu, rfl, hxu, hku⟩ := ho5.at
        have HXU := Hid_of hxu.at'
        obtain ⟨ds, hD, hdm⟩ := HDM5.out
        subst hdm
        have HDX := Hid_of hD
        have hn : ds.length ≤ 4096 := by have := HG.out.ln; rwa [List.length_map] at this
        have hml : (ds.map (·.s)).length = ds.length := by simp
        have HML := Hid_of hml
        obtain ⟨⟨av, cv, rfl, hxv, -⟩, -, -⟩ := hD
        have HXV := Hid_of hxv.at'
        have hol : (Sm.ofOw (ds.map (·.s)) o).length ≤ 4096 := by have := Sm.ids_len (Sm.isOw o) (ds.map (·.s)) (ds.map (·.s)).length; unfold Sm.ofOw; omega
        have HE0 : Hid (Sm.ofOw (ds.map (·.s)) o = Sm.ids (Sm.isOw o) (ds.map (·.s)) ds.length) := Hid_of (by unfold Sm.ofOw; rw [hml])
        clear hdr ho5 ha5 hs5 hxu hku HDM HDM5 hxv hml
        go_wp2
        go_loopw [11, 12] (fun kk i wr => ∃ j : Nat, j ≤ ds.length ∧ i = .int .i64 j ∧ kk = .int .i64 (Sm.ids (Sm.isOw o) (ds.map (·.s)) j).length ∧ Hid (Below w5.heap.size w5 wr)) (fun _ i _ => ds.length - (intOf i).toNat)
        case atStart => exact ⟨0, by omega, rfl, rfl, Hid_of (Below.refl _ _)⟩
        case round =>
          obtain ⟨j, hj, rfl, rfl, HB⟩ := hrel
          by_cases hlj : j < ds.length
          · have hji : (j : Int) < (ds.length : Int) := by omega
            have hjm : j < (ds.map (·.s)).length := by rw [HML.out]; exact hlj
            have hgj : (ds.map (·.s))[j] = ds[j].s := by simp
            have hget := (HA5.out.keep HB.out).get (j : Int)
            have HAJ := Hid_of (dm_at (o := o) hjm)
            have hil := Sm.ids_len (Sm.isOw o) (ds.map (·.s)) j
            have HIA : Hid (Sm.isOw o ds[j].s = true → ∃ hk : (Sm.ids (Sm.isOw o) (ds.map (·.s)) j).length < (Sm.ofOw (ds.map (·.s)) o).length, (Sm.ofOw (ds.map (·.s)) o)[(Sm.ids (Sm.isOw o) (ds.map (·.s)) j).length] = (j : Int)) := Hid_of fun hp => ids_at hjm (by rw [hgj]; exact hp)
            have HYE : Hid (Sm.isOw o ds[j].s = true → (Sm.ids (Sm.isOw o) (ds.map (·.s)) (j + 1)).length = (Sm.ids (Sm.isOw o) (ds.map (·.s)) j).length + 1) := Hid_of fun hp => by rw [Sm.ids_yes hjm (by rw [hgj]; exact hp)]; simp
            have HNE : Hid (Sm.isOw o ds[j].s = false → (Sm.ids (Sm.isOw o) (ds.map (·.s)) (j + 1)).length = (Sm.ids (Sm.isOw o) (ds.map (·.s)) j).length) := Hid_of fun hp => by rw [Sm.ids_no hjm (by rw [hgj]; exact hp)]
            rw [hgj] at HAJ
            have hidj := Hid_of (HDX.out.id j hlj)
            have HSJ := Hid_of ((HDX.out.sv _ (List.getElem_mem hlj)).1.at')
            have HLS : Hid (ds[j].s.l.length ≤ 1000000) := Hid_of (by have := (HG.out.get hjm).2.2.2.2.2.2.1; rw [hgj] at this; omega)
            clear hjm hgj
            go_wp2_with fail
            refine hget.mono ?_
            rintro e w7 ⟨hb7, hcase⟩
            obtain ⟨s7, a7, c7, hat7, rfl, ho7⟩ : ∃ s a c, Sm.at' (Sm.dm (ds.map (·.s)) o) j = some s ∧ e = .returned (.tuple #[eV ⟨j, s, a, c⟩, .bool true]) ∧ OwnL il 3 w7 wr.heap.size (.slice a s.l.length c) s.l := by
              rcases hcase with ⟨q, _⟩ | q
              · rw [HAJ.out] at q; cases q
              · exact q
            rw [HAJ.out] at hat7
            have hs7 := (Option.some.inj hat7).symm
            obtain ⟨W8, HW8⟩ : ∃ W8, Hid (w7.alloc (eO ⟨j, s7, a7, c7⟩) = W8) := ⟨_, rfl⟩
            have hb8 := bel1 w7 (eO ⟨j, s7, a7, c7⟩)
            have hr8 := heap_alloc_last w7 (eO ⟨j, s7, a7, c7⟩)
            rw [HW8.out] at hb8 hr8
            obtain ⟨B, HBB⟩ : ∃ B, Hid (w7.heap.size = B) := ⟨_, rfl⟩
            rw [HBB.out] at hr8
            have HB8 := Hid_of (bel_up (bel_up HB.out hb7 (Nat.le_refl _)) hb8 (Nat.le_refl _))
            have HR8 := Hid_of hr8
            obtain ⟨a7', c7', hv7, hx7, hk7⟩ := ho7.at
            simp only [Value.slice.injEq] at hv7
            obtain ⟨rfl, -, rfl⟩ := hv7
            have HX7 := Hid_of (hx7.at'.keep hb8)
            obtain ⟨b8, o8, rfl, d0, d1, d2, d3, d4, d5⟩ := (HXV.out.keep HB8.out).getE j hlj
            obtain ⟨⟨y0, y1, y2, y3, y4, y5⟩, -⟩ := row_cells hr8
            have HXU8 := Hid_of (HXU.out.keep HB8.out)
            clear hget hb7 hcase hat7 ho7 hb8 hr8 hx7 hk7
            cases hp : Sm.isOw o ds[j].s with
            | true =>
              obtain ⟨f1, f2⟩ : (ds[j].s.st == 1) = true ∧ (ds[j].s.ow == o) = true := by unfold Sm.isOw at hp; simpa using hp
              rw [hp, if_pos rfl] at hs7
              have hst : s7.st = 3 := by rw [hs7]
              rw [hst] at y1
              obtain ⟨hkl, hkv⟩ := HIA.out hp
              obtain ⟨bu, ou, rfl, cu0⟩ := HXU8.out.getI _ hkl
              rw [hkv] at cu0
              have HYJ := Hid_of (HYE.out hp)
              have d6 : decide (((Sm.ofOw (ds.map (·.s)) o).length : Int) ≤ ((Sm.ids (Sm.isOw o) (ds.map (·.s)) j).length : Int)) = false := decide_eq_false (by omega)
              have hkl2 : ((Sm.ids (Sm.isOw o) (ds.map (·.s)) j).length : Int) < ((Sm.ofOw (ds.map (·.s)) o).length : Int) := by omega
              clear hp HIA HYE HNE hs7 hst hkv HAJ HX7 HSJ hidj HLS HB HXU8 HR8
              generalize ds[j] = x at *
              go_upto_region 18 with fail
              rw [HW8.out, HBB.out]
              clear HW8 HBB
              go_wp2
              go_roundw
              case rel => exact ⟨j + 1, by omega, by go_num, by rw [HYJ.out]; go_num, HB8⟩
              case measure => simp [intOf]; omega
            | false =>
              rw [hp] at hs7
              simp only [Bool.false_eq_true, if_false] at hs7
              subst hs7
              have HNO := Hid_of (HNE.out hp)
              have HSM : Hid (∀ W : World, Below W8.heap.size W8 W → Calls Try.prog 14 #[eV ⟨j, ds[j].s, a7, c7⟩, eV ds[j]] W fun e w' => e = .returned (.bool true) ∧ Below W.heap.size W w') := Hid_of fun W hW => same_any ⟨j, ds[j].s, a7, c7⟩ ds[j] W hidj.out.symm rfl HLS.out (HX7.out.keep hW) (HSJ.out.keep (bel_up HB8.out hW (Nat.le_refl _)))
              have HXV8 := Hid_of (HXV.out.keep HB8.out)
              have HS : Hid (∀ wq : World, Below W8.heap.size W8 wq → wq.cell? ⟨B, 0, none⟩ = some (.int .i64 j) ∧ wq.cell? ⟨B, 0 + 1, none⟩ = some (.int .i64 ds[j].s.st) ∧ wq.cell? ⟨B, 0 + 2, none⟩ = some (.int .i64 ds[j].s.ow) ∧ wq.cell? ⟨B, 0 + 3, none⟩ = some (.int .i64 ds[j].s.ep) ∧ wq.cell? ⟨B, 0 + 4, none⟩ = some (.int .i64 ds[j].s.ln) ∧ wq.cell? ⟨B, 0 + 5, none⟩ = some (.slice a7 ds[j].s.l.length c7) ∧ wq.cell? ⟨b8, o8 + j * 6, none⟩ = some (.int .i64 ds[j].id) ∧ wq.cell? ⟨b8, o8 + j * 6 + 1, none⟩ = some (.int .i64 ds[j].s.st) ∧ wq.cell? ⟨b8, o8 + j * 6 + 2, none⟩ = some (.int .i64 ds[j].s.ow) ∧ wq.cell? ⟨b8, o8 + j * 6 + 3, none⟩ = some (.int .i64 ds[j].s.ep) ∧ wq.cell? ⟨b8, o8 + j * 6 + 4, none⟩ = some (.int .i64 ds[j].s.ln) ∧ wq.cell? ⟨b8, o8 + j * 6 + 5, none⟩ = some (.slice ds[j].a ds[j].s.l.length ds[j].c)) := Hid_of fun wq hq => by
                obtain ⟨q0, q1, q2, q3, q4, q5⟩ := (row_cells (y := ⟨j, ds[j].s, a7, c7⟩) (bel_row HR8.out hq)).1
                obtain ⟨b9, o9, e9, r0, r1, r2, r3, r4, r5⟩ := (HXV8.out.keep hq).getE j hlj
                simp only [Option.some.injEq, Addr.mk.injEq] at e9
                obtain ⟨rfl, rfl, -⟩ := e9
                exact ⟨q0, q1, q2, q3, q4, q5, r0, r1, r2, r3, r4, r5⟩
              cases f1 : ds[j].s.st == 1 with
              | false =>
                clear hp HIA HYE HNE HAJ HX7 HSJ hidj HLS HB HXU8 HR8 HXV8
                generalize ds[j] = x at *
                go_upto_region 18 with fail
                rw [HW8.out, HBB.out]
                clear HW8 HBB
                go_upto_region 22 with fail
                refine wp_region_held_drew (S := fun wq => Below (W8).heap.size (W8) wq) (by kernel_rfl) (Below.drew (Below.refl _ _)) (fun hHeld => ?_)
                obtain ⟨wdr, hwdr⟩ : ∃ wd, W8.drew = wd := ⟨_, rfl⟩
                have hBwd : Below W8.heap.size W8 wdr := by rw [← hwdr]; exact Below.drew (Below.refl _ _)
                rw [hwdr] at hHeld ⊢
                clear hwdr
                refine Tk 0 ?p0r ?v0r ?y0r hHeld ?r0r
                case y0r => intro wq hq; obtain ⟨y0, y1, y2, y3, y4, y5, z0, z1, z2, z3, z4, z5⟩ := HS.out wq hq; go_simp; try with_reducible rfl
                refine Tm 1 ?p1r ?v1r hHeld ?r1r
                refine Tm 2 ?p2r ?v2r hHeld ?r2r
                refine Tm 3 ?p3r ?v3r hHeld ?r3r
                refine Tk 4 ?p4r ?v4r ?y4r hHeld ?r4r
                case y4r => intro wq hq; obtain ⟨y0, y1, y2, y3, y4, y5, z0, z1, z2, z3, z4, z5⟩ := HS.out wq hq; go_simp; try with_reducible rfl
                simp only [Act.put, Pa, Pb, Pc]
                refine Rd 5 ?p5r ?s5r
                intro K hK
                go_simp
                have hsm := HSM.out _ hHeld
                refine hsm.mono ?_
                rintro e w9 ⟨rfl, hb9⟩
                have hb9' := bel_up hHeld hb9 (Nat.le_refl _)
                clear hsm hb9
                refine hK.out _ _ hb9' (fun hHeld => ?_)
                clear hK K
                refine Tm 6 ?p6r_5 ?v6r_5 hHeld ?r6r_5
                simp only [Act.put, Pa, Pb, Pc]
                refine wpAnyH_done (by kernel_rfl) ?_ _
                have HN := Hid_of (bel_up HB8.out hb9' (Nat.le_refl _))
                clear hHeld hb9' HSM HS HB8
                go_wp2
                go_roundw
                case rel => exact ⟨j + 1, by omega, by go_num, by rw [HNO.out], HN⟩
                case measure => simp [intOf]; omega
              | true =>
                have f2 : (ds[j].s.ow == o) = false := by
                  unfold Sm.isOw at hp
                  rw [f1] at hp
                  simpa using hp
                clear hp HIA HYE HNE HAJ HX7 HSJ hidj HLS HB HXU8 HR8 HXV8
                generalize ds[j] = x at *
                go_upto_region 18 with fail
                rw [HW8.out, HBB.out]
                clear HW8 HBB
                go_upto_region 22 with fail
                refine wp_region_held_drew (S := fun wq => Below (W8).heap.size (W8) wq) (by kernel_rfl) (Below.drew (Below.refl _ _)) (fun hHeld => ?_)
                obtain ⟨wds, hwds⟩ : ∃ wd, W8.drew = wd := ⟨_, rfl⟩
                have hBwd : Below W8.heap.size W8 wds := by rw [← hwds]; exact Below.drew (Below.refl _ _)
                rw [hwds] at hHeld ⊢
                clear hwds
                refine Tk 0 ?p0s ?v0s ?y0s hHeld ?r0s
                case y0s => intro wq hq; obtain ⟨y0, y1, y2, y3, y4, y5, z0, z1, z2, z3, z4, z5⟩ := HS.out wq hq; go_simp; try with_reducible rfl
                refine Tm 1 ?p1s ?v1s hHeld ?r1s
                refine Tm 2 ?p2s ?v2s hHeld ?r2s
                refine Tm 3 ?p3s ?v3s hHeld ?r3s
                refine Tk 4 ?p4s ?v4s ?y4s hHeld ?r4s
                case y4s => intro wq hq; obtain ⟨y0, y1, y2, y3, y4, y5, z0, z1, z2, z3, z4, z5⟩ := HS.out wq hq; go_simp; try with_reducible rfl
                simp only [Act.put, Pa, Pb, Pc]
                refine Rd 5 ?p5s ?s5s
                intro K hK
                go_simp
                have hsm := HSM.out _ hHeld
                refine hsm.mono ?_
                rintro e w9 ⟨rfl, hb9⟩
                have hb9' := bel_up hHeld hb9 (Nat.le_refl _)
                clear hsm hb9
                refine hK.out _ _ hb9' (fun hHeld => ?_)
                clear hK K
                refine Tm 6 ?p6s_5 ?v6s_5 hHeld ?r6s_5
                simp only [Act.put, Pa, Pb, Pc]
                refine wpAnyH_done (by kernel_rfl) ?_ _
                have HN := Hid_of (bel_up HB8.out hb9' (Nat.le_refl _))
                clear hHeld hb9' HSM HS HB8
                go_wp2
                go_roundw
                case rel => exact ⟨j + 1, by omega, by go_num, by rw [HNO.out], HN⟩
                case measure => simp [intOf]; omega
          · have hjn : j = ds.length := by omega
            subst hjn
            have haw := awake_any wr
            have HBW := Hid_of (bel_up HB1.out (bel_up HA5.out.1 HB.out (Nat.le_refl _)) (Nat.le_refl _))
            rw [← HE0.out]
            clear HA5 HB HXU HDX HXV
            go_wp2_with fail
            refine haw.mono ?_
            rintro e w9 ⟨rfl, hb9⟩
            have HB9 := Hid_of (bel_up HBW.out hb9 (Nat.le_refl _))
            clear haw hb9 HBW
            go_wp2
            go_ret
            exact ⟨rfl, HB9.out⟩

end Go.Proofs.Ytgcfpihfoekllaa
