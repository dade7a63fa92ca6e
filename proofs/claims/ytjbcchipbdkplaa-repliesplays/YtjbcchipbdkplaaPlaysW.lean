/-
  Law 15: what is played.
-/
import Derived.Test.YtjbcchipbdkplaaPS
import Derived.Test.YtjbcchipbdkplaaOnceW
import Derived.Deep.CutRange
namespace Go.Proofs.Ytjbcchipbdkplaa
open Go.RowKit Go.Maps
set_option linter.unusedVariables false
open Rp (C fup)

set_option maxRecDepth 100000 in
set_option maxHeartbeats 4000000 in
theorem plays_walk (n : Int) (a : Option Addr) (cap : Nat) (l : List Dd) (w : World) (hw : (Lit.int .i64 n).wf = true) (hm : l.length ≤ maxLen) (hat : Dds w a l) (hok : ∀ d ∈ l, d.ok) :
    Calls Try.prog 3 #[.int .i64 n, .slice a l.length cap] w fun e w' => e = .returned (.bool true) ∧ Below w.heap.size w w' := by
  have hfew := few_any a cap l w hm hat hok
  have HAT := Hid_of hat
  have HOK := Hid_of hok
  clear hat hok hm hw
  go_enter Try.func3, Try.ntmps3
  go_wp2_with fail
  refine hfew.mono ?_
  rintro e w0 ⟨b0, rfl, hb0, rfl⟩
  clear hfew
  cases b0 with
  | false =>
    go_wp2_with fail
    refine (awake_any _).mono ?_
    rintro e w8 ⟨rfl, b8⟩
    have HB8 := Hid_of b8
    clear b8
    go_wp2
    go_ret
    exact ⟨rfl, HB8.out⟩
  | true =>
    obtain ⟨hl100, hsz⟩ := hb0 rfl
    have HSZ := Hid_of hsz
    have hnw := newK_any n w0 w0 (Below.refl _ _)
    have hnd := newD_any n
    clear hb0 hsz
    go_wp2_with fail
    refine hnw.mono ?_
    rintro e w1 ⟨b, F1, rfl, S1, hb1, _⟩
    have HS1 := Hid_of S1
    clear hnw S1 hb1
    go_wp2_with fail
    refine (hnd w1).mono ?_
    rintro e w2 ⟨rfl, hb2⟩
    clear hnd
    generalize rm n = room at *
    have hbx : (w2.alloc (.cells (DA 0 nodv) 30)).heap[w2.heap.size]? = some (.cells (DA 0 nodv) 30 (0, 0)) := heap_alloc_last w2 _
    have hst := store30_row _ w2.heap.size (room : Int) 0 nodv nodv nodv_sl hbx
    obtain ⟨W3, HW3⟩ : ∃ W3, Hid ((w2.alloc (.cells (DA 0 nodv) 30)).setRow w2.heap.size (DA room nodv) = W3) := ⟨_, Hid_of rfl⟩
    have HP3 : Hid (PS w0 W3 F1 b 0 room Rp.non w2.heap.size nodv) := by
      have hk2 := HS1.out.keep hb2
      have hB : Below w2.heap.size w2 W3 := by rw [← HW3.out]; exact below_setRow (bel1 w2 _) (Nat.le_refl _) _
      exact ⟨hk2.keep hB, DR.none W3, DN.none _, by rw [← HW3.out]; exact setRow_heap _ _ _ _ _ _ hbx, fun e => by have := (hk2.mine _ e).2; omega, hk2.bel.size⟩
    clear hbx hb2 HS1
    go_upto_region 4 with fail
    rw [HW3.out]
    obtain ⟨B, hB⟩ : ∃ B, w2.heap.size = B := ⟨_, rfl⟩
    rw [hB] at HP3 ⊢
    clear hst HW3 hB
    go_wp2
    go_loopw [7] (fun i wr => ∃ (k : Nat) (F : Nat → Prop) (T : Int → List C) (dv : Nat → Value), k ≤ l.length ∧ i = .int .i64 k ∧ PS w0 wr F b k room T B dv) (fun i _ => l.length - (intOf i).toNat)
    case atStart => exact ⟨0, F1, _, _, Nat.zero_le _, rfl, HP3.out⟩
    case round =>
      obtain ⟨k, F, T, dv, hk, rfl, hS⟩ := hrel
      by_cases hlt : k < l.length
      · obtain ⟨b0, off, rfl, c0, c1, c2, c3⟩ := (HAT.out.keep hS.ks.bel) k hlt
        have hdok := HOK.out l[k] (List.getElem_mem hlt)
        have hds := HSZ.out l[k] (List.getElem_mem hlt)
        have hcb := wf_bd hdok.2.1
        obtain ⟨W1, HW1⟩ : ∃ W1, Hid (wr.alloc (.cells #[.int .i64 l[k].k, .int .i64 l[k].c, .int .i64 l[k].i, .string l[k].val] 33) = W1) := ⟨_, Hid_of rfl⟩
        have hb1 : Below wr.heap.size wr W1 := by rw [← HW1.out]; exact bel1 wr _
        have hx1 : W1.heap[wr.heap.size]? = some (.cells #[.int .i64 l[k].k, .int .i64 l[k].c, .int .i64 l[k].i, .string l[k].val] 33 (0, 0)) := by rw [← HW1.out]; exact heap_alloc_last wr _
        have HN1 : Hid (¬ F wr.heap.size) := fun e => by have := (hS.ks.mine _ e).2; omega
        have HNB : Hid (wr.heap.size ≠ B) := Hid_of (by have := hS.lt; omega)
        have HS := Hid_of (hS.keep hb1)
        have hs5 : l[k].val.data.toList.length ≤ 1000000 := by rw [len_data]; omega
        have HSV : Hid (ofL l[k].val.data.toList = l[k].val) := ofL_of _
        clear hS hdok hds hb1
        generalize hsl : l[k].val.data.toList = sl at *
        generalize l[k].val = s at *
        generalize l[k].k = dk at *
        generalize l[k].c = dc at *
        generalize l[k].i = di at *
        clear hsl
        obtain ⟨y0, y1, y2, y3⟩ := rw4 hx1
        have HX1 := Hid_of hx1
        have hld := HS.out.ld
        clear hx1
        go_upto_region 8 with fail
        rw [HW1.out]
        by_cases hk1 : dk = 1
        · subst hk1
          have hdp := dpt_any room HS.out.dr HS.out.ks.ok dc di sl hs5
          rw [HSV.out] at hdp
          obtain ⟨pb, hpb⟩ : ∃ pb, Rp.ptb (T dc) di sl = pb := ⟨_, rfl⟩
          go_wp2_with fail
          refine hdp.mono ?_
          rintro e w2 ⟨dv', rfl, hdr, hb2, hnw⟩
          rw [hpb]
          obtain ⟨st1, ld2, st3, W, HW, hkW, hdW, hnW, hrW, hoW⟩ := HS.out.doc hdr hb2 hnw
          have hx2 := (hb2.block _ (Array.getElem?_eq_some_iff.1 HX1.out).1).trans HX1.out
          have hxW := (hoW _ (Array.getElem?_eq_some_iff.1 hx2).1 HNB.out).trans hx2
          obtain ⟨z0, z1, z2, z3⟩ := rw4 hxW
          have HXW := Hid_of hxW
          have hpt := hkW.put dc di hcb sl hs5
          rw [HSV.out, hpb] at hpt
          have HC := Hid_of (And.intro hkW (And.intro hdW (And.intro hnW hrW)))
          have HNF := Hid_of HS.out.nf
          have HLO := Hid_of HS.out.lo
          clear hdp hdr hb2 hnw hkW hdW hnW hrW hoW hx2 hxW HX1 hld y0 y1 y2 y3 HS
          go_upto_region 11 with fail
          rw [HW.out]
          clear st1 ld2 st3 HW
          go_wp2_with fail
          refine hpt.mono ?_
          rintro e w4 ⟨rfl, hk4, hf4⟩
          have HP4 := Hid_of (PS.prog HC.out.1 HC.out.2.1 HC.out.2.2.1 HC.out.2.2.2 HNF.out HLO.out hk4 hf4)
          obtain ⟨hx4, hn4⟩ := box_step HXW.out hf4 HN1.out
          obtain ⟨v0, v1, v2, v3⟩ := rw4 hx4
          clear hpt hk4 hf4 HC z0 z1 z2 z3 HXW HN1 hn4 HNF HLO hpb
          have HX4 := Hid_of hx4
          clear hx4
          generalize hTT : Rp.put T dc di sl = T4 at *
          clear hTT
          cases pb with
          | false =>
            go_upto_region 18 with fail
            have hl16 := (HP4.out.ks.ok.l dc).le
            have hr16 := HP4.out.ks.ok.r16
            obtain ⟨wd, hwd⟩ : ∃ wd, w4.drew = wd := ⟨_, rfl⟩
            have HBD : Hid (Below w4.heap.size w4 wd) := by rw [← hwd]; exact (Below.refl _ _).drew
            have HG : Hid (∀ W, Below w4.heap.size w4 W → PS w0 W F b k room T4 B dv' ∧ ((ld30 ⟨B, 0, none⟩).run Try.prog W = .ok (DA room dv') W ∧ W.cell? ⟨wr.heap.size, 1, none⟩ = some (.int .i64 dc))) := fun W hW => ⟨HP4.out.keep hW, (HP4.out.keep hW).ld, (hW.cell (p := ⟨wr.heap.size, 1, none⟩) (World.block_lt_of_cell? w4 _ v1)).trans v1⟩
            obtain ⟨I, hI⟩ : ∃ I, (T4 dc).map C.id = I := ⟨_, rfl⟩
            have hIl : I.length ≤ 1000000 := by rw [← hI]; simp; omega
            have hsd := HG.out wd HBD.out
            clear v0 v1 v2 v3 HX4 HP4
            refine wp_region_held_drew (S := fun wq => (ld30 ⟨B, 0, none⟩).run Try.prog wq = .ok (DA room dv') wq ∧ wq.cell? ⟨wr.heap.size, 1, none⟩ = some (.int .i64 dc)) (by kernel_rfl) (by rw [hwd]; exact hsd.2) (fun hHeld => ?_)
            rw [hwd] at hHeld ⊢
            clear hwd
            refine wpAnyH_take (i := 0) (oi := ?p0x1p) (v := ?v0x1p) ?o0x1p (by kernel_rfl) (by kernel_rfl) (by kernel_rfl) ?q0x1p ?y0x1p hHeld ?r0x1p
            case o0x1p => (simp only [List.getElem?_toArray, List.getElem?_cons_zero]; try rfl)
            case q0x1p => exact fun _ _ _ h => h
            case y0x1p => (refine Or.inl ⟨rfl, ?_⟩; intro wq hq; obtain ⟨q0, q1⟩ := hq; go_simp; try with_reducible rfl)
            simp only [Act.put, List.setIfInBounds_toArray, List.set_cons_zero, List.set_cons_succ]
            refine wpAnyH_take (i := 1) (oi := ?p1x2p) (v := ?v1x2p) ?o1x2p (by kernel_rfl) (by kernel_rfl) (by kernel_rfl) ?q1x2p ?y1x2p hHeld ?r1x2p
            case o1x2p => (simp only [List.getElem?_toArray, List.getElem?_cons_succ, List.getElem?_cons_zero]; try rfl)
            case q1x2p => exact fun _ _ _ h => h
            case y1x2p => (refine Or.inl ⟨rfl, ?_⟩; intro wq hq; obtain ⟨q0, q1⟩ := hq; go_simp; try with_reducible rfl)
            simp only [Act.put, List.setIfInBounds_toArray, List.set_cons_zero, List.set_cons_succ]
            refine wpAnyH_take (i := 2) (oi := ?p2x3p) (v := ?v2x3p) ?o2x3p (by kernel_rfl) (by kernel_rfl) (by kernel_rfl) ?q2x3p ?y2x3p hHeld ?r2x3p
            case o2x3p => (simp only [List.getElem?_toArray, List.getElem?_cons_succ, List.getElem?_cons_zero]; try rfl)
            case q2x3p => exact fun _ _ _ h => h
            case y2x3p => (refine Or.inl ⟨rfl, ?_⟩; intro wq hq; obtain ⟨q0, q1⟩ := hq; go_simp; try with_reducible rfl)
            simp only [Act.put, List.setIfInBounds_toArray, List.set_cons_zero, List.set_cons_succ]
            refine wpAnyH_take (i := 4) (oi := ?p4x4p) (v := ?v4x4p) ?o4x4p (by kernel_rfl) (by kernel_rfl) (by kernel_rfl) ?q4x4p ?y4x4p hHeld ?r4x4p
            case o4x4p => (simp only [List.getElem?_toArray, List.getElem?_cons_succ, List.getElem?_cons_zero]; try rfl)
            case q4x4p => exact fun _ _ _ h => h
            case y4x4p => (refine Or.inl ⟨rfl, ?_⟩; intro wq hq; obtain ⟨q0, q1⟩ := hq; go_simp; try with_reducible rfl)
            simp only [Act.put, List.setIfInBounds_toArray, List.set_cons_zero, List.set_cons_succ]
            refine wpAnyH_take (i := 5) (oi := ?p5x5p) (v := ?v5x5p) ?o5x5p (by kernel_rfl) (by kernel_rfl) (by kernel_rfl) ?q5x5p ?y5x5p hHeld ?r5x5p
            case o5x5p => (simp only [List.getElem?_toArray, List.getElem?_cons_succ, List.getElem?_cons_zero]; try rfl)
            case q5x5p => exact fun _ _ _ h => h
            case y5x5p => (refine Or.inl ⟨rfl, ?_⟩; intro wq hq; obtain ⟨q0, q1⟩ := hq; go_simp; try with_reducible rfl)
            simp only [Act.put, List.setIfInBounds_toArray, List.set_cons_zero, List.set_cons_succ]
            refine wpAnyH_take (i := 6) (oi := ?p6x6p) (v := ?v6x6p) ?o6x6p (by kernel_rfl) (by kernel_rfl) (by kernel_rfl) ?q6x6p ?y6x6p hHeld ?r6x6p
            case o6x6p => (simp only [List.getElem?_toArray, List.getElem?_cons_succ, List.getElem?_cons_zero]; try rfl)
            case q6x6p => exact fun _ _ _ h => h
            case y6x6p => (refine Or.inl ⟨rfl, ?_⟩; intro wq hq; obtain ⟨q0, q1⟩ := hq; go_simp; try with_reducible rfl)
            simp only [Act.put, List.setIfInBounds_toArray, List.set_cons_zero, List.set_cons_succ]
            refine wpAnyH_ready (rs := [3]) (by kernel_rfl) (by simp) ?_
            refine (AllReadyH.cons (o := ?p3x7p) ?o3x7p ?s3x7p AllReadyH.nil)
            case o3x7p => (simp only [List.getElem?_toArray, List.getElem?_cons_succ, List.getElem?_cons_zero]; try rfl)
            intro Kk hK
            go_simp
            have hc1 := hsd.1.ks.ids dc hcb
            rw [hI] at hc1
            refine hc1.mono ?_
            rintro e w7 ⟨v7, rfl, ho7, hb7⟩
            have HBx : Hid (Below w4.heap.size w4 w7) := bel_up HBD.out hb7 (Nat.le_refl _)
            obtain ⟨a7, cap7, rfl, hx7, _⟩ := ho7.at
            have HX7 := Hid_of hx7
            clear hc1 ho7 hb7 hx7
            refine hK.out _ _ (HG.out _ HBx.out).2 (fun hHeld => ?_)
            clear hK Kk
            refine wpAnyH_ready (rs := [7]) (by kernel_rfl) (by simp) ?_
            refine (AllReadyH.cons (o := ?p7x8p) ?o7x8p ?s7x8p AllReadyH.nil)
            case o7x8p => (simp only [List.getElem?_toArray, List.getElem?_cons_succ, List.getElem?_cons_zero]; try rfl)
            intro Kk hK
            go_simp
            have hc2 := idsD_any room (HG.out w7 HBx.out).1.dr (HG.out w7 HBx.out).1.ks.ok dc
            rw [hI] at hc2
            refine hc2.mono ?_
            rintro e w8 ⟨v8, rfl, ho8, hb8⟩
            have HBy : Hid (Below w4.heap.size w4 w8) := bel_up HBx.out hb8 (Nat.le_refl _)
            obtain ⟨a8, cap8, rfl, hx8, _⟩ := ho8.at
            have HX8 := Hid_of (And.intro (HX7.out.keep hb8).at' hx8.at')
            clear hc2 ho8 hb8 hx8
            refine hK.out _ _ (HG.out _ HBy.out).2 (fun hHeld => ?_)
            clear hK Kk
            refine wpAnyH_ready (rs := [8]) (by kernel_rfl) (by simp) ?_
            refine (AllReadyH.cons (o := ?p8x9p) ?o8x9p ?s8x9p AllReadyH.nil)
            case o8x9p => (simp only [List.getElem?_toArray, List.getElem?_cons_succ, List.getElem?_cons_zero]; try rfl)
            intro Kk hK
            go_simp
            have hin := ints_any a7 cap7 a8 cap8 I w8 hIl HX8.out.1 HX8.out.2
            refine hin.mono ?_
            rintro e w9 ⟨rfl, hb9⟩
            have HBz : Hid (Below w4.heap.size w4 w9) := bel_up HBy.out hb9 (Nat.le_refl _)
            clear hin hb9
            refine hK.out _ _ (HG.out _ HBz.out).2 (fun hHeld => ?_)
            clear hK Kk
            refine wpAnyH_take (i := 9) (oi := ?p9x10p) (v := ?v9x10p) ?o9x10p (by kernel_rfl) (by kernel_rfl) (by kernel_rfl) ?q9x10p ?y9x10p hHeld ?r9x10p
            case o9x10p => (simp only [List.getElem?_toArray, List.getElem?_cons_succ, List.getElem?_cons_zero]; try rfl)
            case q9x10p => exact fun _ _ _ h => h
            case y9x10p => (refine Or.inl ⟨rfl, ?_⟩; intro wq hq; obtain ⟨q0, q1⟩ := hq; go_simp; try with_reducible rfl)
            simp only [Act.put, List.setIfInBounds_toArray, List.set_cons_zero, List.set_cons_succ]
            refine wpAnyH_done (by kernel_rfl) ?_ _
            have HREL := Hid_of (HG.out w9 HBz.out).1
            clear HG HBz HBy HBx HBD hHeld hsd
            go_wp2
            go_roundw
            case rel => exact ⟨k + 1, _, _, _, by omega, by go_num, ⟨HREL.out.ks.mono (Nat.le_succ _), HREL.out.dr, HREL.out.dn, HREL.out.row, HREL.out.nf, HREL.out.lo⟩⟩
            case measure => simp [intOf]; omega
          | true =>
            go_upto_region 18 with fail
            have hl16 := (HP4.out.ks.ok.l dc).le
            have hr16 := HP4.out.ks.ok.r16
            obtain ⟨wd, hwd⟩ : ∃ wd, w4.drew = wd := ⟨_, rfl⟩
            have HBD : Hid (Below w4.heap.size w4 wd) := by rw [← hwd]; exact (Below.refl _ _).drew
            have HG : Hid (∀ W, Below w4.heap.size w4 W → PS w0 W F b k room T4 B dv' ∧ ((ld30 ⟨B, 0, none⟩).run Try.prog W = .ok (DA room dv') W ∧ W.cell? ⟨wr.heap.size, 1, none⟩ = some (.int .i64 dc))) := fun W hW => ⟨HP4.out.keep hW, (HP4.out.keep hW).ld, (hW.cell (p := ⟨wr.heap.size, 1, none⟩) (World.block_lt_of_cell? w4 _ v1)).trans v1⟩
            obtain ⟨I, hI⟩ : ∃ I, (T4 dc).map C.id = I := ⟨_, rfl⟩
            have hIl : I.length ≤ 1000000 := by rw [← hI]; simp; omega
            have hsd := HG.out wd HBD.out
            clear v0 v1 v2 v3 HX4 HP4
            refine wp_region_held_drew (S := fun wq => (ld30 ⟨B, 0, none⟩).run Try.prog wq = .ok (DA room dv') wq ∧ wq.cell? ⟨wr.heap.size, 1, none⟩ = some (.int .i64 dc)) (by kernel_rfl) (by rw [hwd]; exact hsd.2) (fun hHeld => ?_)
            rw [hwd] at hHeld ⊢
            clear hwd
            refine wpAnyH_take (i := 0) (oi := ?p0x1u) (v := ?v0x1u) ?o0x1u (by kernel_rfl) (by kernel_rfl) (by kernel_rfl) ?q0x1u ?y0x1u hHeld ?r0x1u
            case o0x1u => (simp only [List.getElem?_toArray, List.getElem?_cons_zero]; try rfl)
            case q0x1u => exact fun _ _ _ h => h
            case y0x1u => (refine Or.inl ⟨rfl, ?_⟩; intro wq hq; obtain ⟨q0, q1⟩ := hq; go_simp; try with_reducible rfl)
            simp only [Act.put, List.setIfInBounds_toArray, List.set_cons_zero, List.set_cons_succ]
            refine wpAnyH_take (i := 1) (oi := ?p1x2u) (v := ?v1x2u) ?o1x2u (by kernel_rfl) (by kernel_rfl) (by kernel_rfl) ?q1x2u ?y1x2u hHeld ?r1x2u
            case o1x2u => (simp only [List.getElem?_toArray, List.getElem?_cons_succ, List.getElem?_cons_zero]; try rfl)
            case q1x2u => exact fun _ _ _ h => h
            case y1x2u => (refine Or.inl ⟨rfl, ?_⟩; intro wq hq; obtain ⟨q0, q1⟩ := hq; go_simp; try with_reducible rfl)
            simp only [Act.put, List.setIfInBounds_toArray, List.set_cons_zero, List.set_cons_succ]
            refine wpAnyH_take (i := 2) (oi := ?p2x3u) (v := ?v2x3u) ?o2x3u (by kernel_rfl) (by kernel_rfl) (by kernel_rfl) ?q2x3u ?y2x3u hHeld ?r2x3u
            case o2x3u => (simp only [List.getElem?_toArray, List.getElem?_cons_succ, List.getElem?_cons_zero]; try rfl)
            case q2x3u => exact fun _ _ _ h => h
            case y2x3u => (refine Or.inl ⟨rfl, ?_⟩; intro wq hq; obtain ⟨q0, q1⟩ := hq; go_simp; try with_reducible rfl)
            simp only [Act.put, List.setIfInBounds_toArray, List.set_cons_zero, List.set_cons_succ]
            refine wpAnyH_take (i := 4) (oi := ?p4x4u) (v := ?v4x4u) ?o4x4u (by kernel_rfl) (by kernel_rfl) (by kernel_rfl) ?q4x4u ?y4x4u hHeld ?r4x4u
            case o4x4u => (simp only [List.getElem?_toArray, List.getElem?_cons_succ, List.getElem?_cons_zero]; try rfl)
            case q4x4u => exact fun _ _ _ h => h
            case y4x4u => (refine Or.inl ⟨rfl, ?_⟩; intro wq hq; obtain ⟨q0, q1⟩ := hq; go_simp; try with_reducible rfl)
            simp only [Act.put, List.setIfInBounds_toArray, List.set_cons_zero, List.set_cons_succ]
            refine wpAnyH_take (i := 5) (oi := ?p5x5u) (v := ?v5x5u) ?o5x5u (by kernel_rfl) (by kernel_rfl) (by kernel_rfl) ?q5x5u ?y5x5u hHeld ?r5x5u
            case o5x5u => (simp only [List.getElem?_toArray, List.getElem?_cons_succ, List.getElem?_cons_zero]; try rfl)
            case q5x5u => exact fun _ _ _ h => h
            case y5x5u => (refine Or.inl ⟨rfl, ?_⟩; intro wq hq; obtain ⟨q0, q1⟩ := hq; go_simp; try with_reducible rfl)
            simp only [Act.put, List.setIfInBounds_toArray, List.set_cons_zero, List.set_cons_succ]
            refine wpAnyH_take (i := 6) (oi := ?p6x6u) (v := ?v6x6u) ?o6x6u (by kernel_rfl) (by kernel_rfl) (by kernel_rfl) ?q6x6u ?y6x6u hHeld ?r6x6u
            case o6x6u => (simp only [List.getElem?_toArray, List.getElem?_cons_succ, List.getElem?_cons_zero]; try rfl)
            case q6x6u => exact fun _ _ _ h => h
            case y6x6u => (refine Or.inl ⟨rfl, ?_⟩; intro wq hq; obtain ⟨q0, q1⟩ := hq; go_simp; try with_reducible rfl)
            simp only [Act.put, List.setIfInBounds_toArray, List.set_cons_zero, List.set_cons_succ]
            refine wpAnyH_ready (rs := [3]) (by kernel_rfl) (by simp) ?_
            refine (AllReadyH.cons (o := ?p3x7u) ?o3x7u ?s3x7u AllReadyH.nil)
            case o3x7u => (simp only [List.getElem?_toArray, List.getElem?_cons_succ, List.getElem?_cons_zero]; try rfl)
            intro Kk hK
            go_simp
            have hc1 := hsd.1.ks.ids dc hcb
            rw [hI] at hc1
            refine hc1.mono ?_
            rintro e w7 ⟨v7, rfl, ho7, hb7⟩
            have HBx : Hid (Below w4.heap.size w4 w7) := bel_up HBD.out hb7 (Nat.le_refl _)
            obtain ⟨a7, cap7, rfl, hx7, _⟩ := ho7.at
            have HX7 := Hid_of hx7
            clear hc1 ho7 hb7 hx7
            refine hK.out _ _ (HG.out _ HBx.out).2 (fun hHeld => ?_)
            clear hK Kk
            refine wpAnyH_ready (rs := [7]) (by kernel_rfl) (by simp) ?_
            refine (AllReadyH.cons (o := ?p7x8u) ?o7x8u ?s7x8u AllReadyH.nil)
            case o7x8u => (simp only [List.getElem?_toArray, List.getElem?_cons_succ, List.getElem?_cons_zero]; try rfl)
            intro Kk hK
            go_simp
            have hc2 := idsD_any room (HG.out w7 HBx.out).1.dr (HG.out w7 HBx.out).1.ks.ok dc
            rw [hI] at hc2
            refine hc2.mono ?_
            rintro e w8 ⟨v8, rfl, ho8, hb8⟩
            have HBy : Hid (Below w4.heap.size w4 w8) := bel_up HBx.out hb8 (Nat.le_refl _)
            obtain ⟨a8, cap8, rfl, hx8, _⟩ := ho8.at
            have HX8 := Hid_of (And.intro (HX7.out.keep hb8).at' hx8.at')
            clear hc2 ho8 hb8 hx8
            refine hK.out _ _ (HG.out _ HBy.out).2 (fun hHeld => ?_)
            clear hK Kk
            refine wpAnyH_ready (rs := [8]) (by kernel_rfl) (by simp) ?_
            refine (AllReadyH.cons (o := ?p8x9u) ?o8x9u ?s8x9u AllReadyH.nil)
            case o8x9u => (simp only [List.getElem?_toArray, List.getElem?_cons_succ, List.getElem?_cons_zero]; try rfl)
            intro Kk hK
            go_simp
            have hin := ints_any a7 cap7 a8 cap8 I w8 hIl HX8.out.1 HX8.out.2
            refine hin.mono ?_
            rintro e w9 ⟨rfl, hb9⟩
            have HBz : Hid (Below w4.heap.size w4 w9) := bel_up HBy.out hb9 (Nat.le_refl _)
            clear hin hb9
            refine hK.out _ _ (HG.out _ HBz.out).2 (fun hHeld => ?_)
            clear hK Kk
            refine wpAnyH_take (i := 9) (oi := ?p9x10u) (v := ?v9x10u) ?o9x10u (by kernel_rfl) (by kernel_rfl) (by kernel_rfl) ?q9x10u ?y9x10u hHeld ?r9x10u
            case o9x10u => (simp only [List.getElem?_toArray, List.getElem?_cons_succ, List.getElem?_cons_zero]; try rfl)
            case q9x10u => exact fun _ _ _ h => h
            case y9x10u => (refine Or.inl ⟨rfl, ?_⟩; intro wq hq; obtain ⟨q0, q1⟩ := hq; go_simp; try with_reducible rfl)
            simp only [Act.put, List.setIfInBounds_toArray, List.set_cons_zero, List.set_cons_succ]
            refine wpAnyH_done (by kernel_rfl) ?_ _
            have HREL := Hid_of (HG.out w9 HBz.out).1
            clear HG HBz HBy HBx HBD hHeld hsd
            go_wp2
            go_roundw
            case rel => exact ⟨k + 1, _, _, _, by omega, by go_num, ⟨HREL.out.ks.mono (Nat.le_succ _), HREL.out.dr, HREL.out.dn, HREL.out.row, HREL.out.nf, HREL.out.lo⟩⟩
            case measure => simp [intOf]; omega
        · have hdt := dtk_any room HS.out.dr HS.out.ks.ok dc di
          obtain ⟨cd, hcd⟩ : ∃ cd, Rp.code room T dc di = cd := ⟨_, rfl⟩
          obtain ⟨td, htd⟩ : ∃ td, ofL (Rp.told T dc di) = td := ⟨_, rfl⟩
          go_wp2_with fail
          refine hdt.mono ?_
          rintro e w2 ⟨dv', rfl, hdr, hb2, hnw⟩
          rw [hcd, htd]
          obtain ⟨st1, ld2, st3, W, HW, hkW, hdW, hnW, hrW, hoW⟩ := HS.out.doc hdr hb2 hnw
          have hx2 := (hb2.block _ (Array.getElem?_eq_some_iff.1 HX1.out).1).trans HX1.out
          have hxW := (hoW _ (Array.getElem?_eq_some_iff.1 hx2).1 HNB.out).trans hx2
          obtain ⟨z0, z1, z2, z3⟩ := rw4 hxW
          have HXW := Hid_of hxW
          have hpt := hkW.take (by omega) dc di
          rw [hcd, htd] at hpt
          have HC := Hid_of (And.intro hkW (And.intro hdW (And.intro hnW hrW)))
          have HNF := Hid_of HS.out.nf
          have HLO := Hid_of HS.out.lo
          clear hdt hdr hb2 hnw hkW hdW hnW hrW hoW hx2 hxW HX1 hld y0 y1 y2 y3 HS
          go_upto_region 15 with fail
          rw [HW.out]
          clear st1 ld2 st3 HW
          go_wp2_with fail
          refine hpt.mono ?_
          rintro e w4 ⟨F4, rfl, hk4, hf4⟩
          have HP4 := Hid_of (PS.prog HC.out.1 HC.out.2.1 HC.out.2.2.1 HC.out.2.2.2 HNF.out HLO.out hk4 hf4)
          obtain ⟨hx4, hn4⟩ := box_step HXW.out hf4 HN1.out
          obtain ⟨v0, v1, v2, v3⟩ := rw4 hx4
          clear hpt hk4 hf4 HC z0 z1 z2 z3 HXW HN1 hn4 HNF HLO hcd htd
          have HX4 := Hid_of hx4
          clear hx4
          generalize hTT : Rp.take room T dc di = T4 at *
          clear hTT
          go_upto_region 18 with fail
          have hl16 := (HP4.out.ks.ok.l dc).le
          have hr16 := HP4.out.ks.ok.r16
          obtain ⟨wd, hwd⟩ : ∃ wd, w4.drew = wd := ⟨_, rfl⟩
          have HBD : Hid (Below w4.heap.size w4 wd) := by rw [← hwd]; exact (Below.refl _ _).drew
          have HG : Hid (∀ W, Below w4.heap.size w4 W → PS w0 W F4 b (k + 1) room T4 B dv' ∧ ((ld30 ⟨B, 0, none⟩).run Try.prog W = .ok (DA room dv') W ∧ W.cell? ⟨wr.heap.size, 1, none⟩ = some (.int .i64 dc))) := fun W hW => ⟨HP4.out.keep hW, (HP4.out.keep hW).ld, (hW.cell (p := ⟨wr.heap.size, 1, none⟩) (World.block_lt_of_cell? w4 _ v1)).trans v1⟩
          obtain ⟨I, hI⟩ : ∃ I, (T4 dc).map C.id = I := ⟨_, rfl⟩
          have hIl : I.length ≤ 1000000 := by rw [← hI]; simp; omega
          have hsd := HG.out wd HBD.out
          clear v0 v1 v2 v3 HX4 HP4
          refine wp_region_held_drew (S := fun wq => (ld30 ⟨B, 0, none⟩).run Try.prog wq = .ok (DA room dv') wq ∧ wq.cell? ⟨wr.heap.size, 1, none⟩ = some (.int .i64 dc)) (by kernel_rfl) (by rw [hwd]; exact hsd.2) (fun hHeld => ?_)
          rw [hwd] at hHeld ⊢
          clear hwd
          refine wpAnyH_take (i := 0) (oi := ?p0x1t) (v := ?v0x1t) ?o0x1t (by kernel_rfl) (by kernel_rfl) (by kernel_rfl) ?q0x1t ?y0x1t hHeld ?r0x1t
          case o0x1t => (simp only [List.getElem?_toArray, List.getElem?_cons_zero]; try rfl)
          case q0x1t => exact fun _ _ _ h => h
          case y0x1t => (refine Or.inl ⟨rfl, ?_⟩; intro wq hq; obtain ⟨q0, q1⟩ := hq; go_simp; try with_reducible rfl)
          simp only [Act.put, List.setIfInBounds_toArray, List.set_cons_zero, List.set_cons_succ]
          refine wpAnyH_take (i := 1) (oi := ?p1x2t) (v := ?v1x2t) ?o1x2t (by kernel_rfl) (by kernel_rfl) (by kernel_rfl) ?q1x2t ?y1x2t hHeld ?r1x2t
          case o1x2t => (simp only [List.getElem?_toArray, List.getElem?_cons_succ, List.getElem?_cons_zero]; try rfl)
          case q1x2t => exact fun _ _ _ h => h
          case y1x2t => (refine Or.inl ⟨rfl, ?_⟩; intro wq hq; obtain ⟨q0, q1⟩ := hq; go_simp; try with_reducible rfl)
          simp only [Act.put, List.setIfInBounds_toArray, List.set_cons_zero, List.set_cons_succ]
          refine wpAnyH_take (i := 2) (oi := ?p2x3t) (v := ?v2x3t) ?o2x3t (by kernel_rfl) (by kernel_rfl) (by kernel_rfl) ?q2x3t ?y2x3t hHeld ?r2x3t
          case o2x3t => (simp only [List.getElem?_toArray, List.getElem?_cons_succ, List.getElem?_cons_zero]; try rfl)
          case q2x3t => exact fun _ _ _ h => h
          case y2x3t => (refine Or.inl ⟨rfl, ?_⟩; intro wq hq; obtain ⟨q0, q1⟩ := hq; go_simp; try with_reducible rfl)
          simp only [Act.put, List.setIfInBounds_toArray, List.set_cons_zero, List.set_cons_succ]
          refine wpAnyH_take (i := 4) (oi := ?p4x4t) (v := ?v4x4t) ?o4x4t (by kernel_rfl) (by kernel_rfl) (by kernel_rfl) ?q4x4t ?y4x4t hHeld ?r4x4t
          case o4x4t => (simp only [List.getElem?_toArray, List.getElem?_cons_succ, List.getElem?_cons_zero]; try rfl)
          case q4x4t => exact fun _ _ _ h => h
          case y4x4t => (refine Or.inl ⟨rfl, ?_⟩; intro wq hq; obtain ⟨q0, q1⟩ := hq; go_simp; try with_reducible rfl)
          simp only [Act.put, List.setIfInBounds_toArray, List.set_cons_zero, List.set_cons_succ]
          refine wpAnyH_take (i := 5) (oi := ?p5x5t) (v := ?v5x5t) ?o5x5t (by kernel_rfl) (by kernel_rfl) (by kernel_rfl) ?q5x5t ?y5x5t hHeld ?r5x5t
          case o5x5t => (simp only [List.getElem?_toArray, List.getElem?_cons_succ, List.getElem?_cons_zero]; try rfl)
          case q5x5t => exact fun _ _ _ h => h
          case y5x5t => (refine Or.inl ⟨rfl, ?_⟩; intro wq hq; obtain ⟨q0, q1⟩ := hq; go_simp; try with_reducible rfl)
          simp only [Act.put, List.setIfInBounds_toArray, List.set_cons_zero, List.set_cons_succ]
          refine wpAnyH_take (i := 6) (oi := ?p6x6t) (v := ?v6x6t) ?o6x6t (by kernel_rfl) (by kernel_rfl) (by kernel_rfl) ?q6x6t ?y6x6t hHeld ?r6x6t
          case o6x6t => (simp only [List.getElem?_toArray, List.getElem?_cons_succ, List.getElem?_cons_zero]; try rfl)
          case q6x6t => exact fun _ _ _ h => h
          case y6x6t => (refine Or.inl ⟨rfl, ?_⟩; intro wq hq; obtain ⟨q0, q1⟩ := hq; go_simp; try with_reducible rfl)
          simp only [Act.put, List.setIfInBounds_toArray, List.set_cons_zero, List.set_cons_succ]
          refine wpAnyH_ready (rs := [3]) (by kernel_rfl) (by simp) ?_
          refine (AllReadyH.cons (o := ?p3x7t) ?o3x7t ?s3x7t AllReadyH.nil)
          case o3x7t => (simp only [List.getElem?_toArray, List.getElem?_cons_succ, List.getElem?_cons_zero]; try rfl)
          intro Kk hK
          go_simp
          have hc1 := hsd.1.ks.ids dc hcb
          rw [hI] at hc1
          refine hc1.mono ?_
          rintro e w7 ⟨v7, rfl, ho7, hb7⟩
          have HBx : Hid (Below w4.heap.size w4 w7) := bel_up HBD.out hb7 (Nat.le_refl _)
          obtain ⟨a7, cap7, rfl, hx7, _⟩ := ho7.at
          have HX7 := Hid_of hx7
          clear hc1 ho7 hb7 hx7
          refine hK.out _ _ (HG.out _ HBx.out).2 (fun hHeld => ?_)
          clear hK Kk
          refine wpAnyH_ready (rs := [7]) (by kernel_rfl) (by simp) ?_
          refine (AllReadyH.cons (o := ?p7x8t) ?o7x8t ?s7x8t AllReadyH.nil)
          case o7x8t => (simp only [List.getElem?_toArray, List.getElem?_cons_succ, List.getElem?_cons_zero]; try rfl)
          intro Kk hK
          go_simp
          have hc2 := idsD_any room (HG.out w7 HBx.out).1.dr (HG.out w7 HBx.out).1.ks.ok dc
          rw [hI] at hc2
          refine hc2.mono ?_
          rintro e w8 ⟨v8, rfl, ho8, hb8⟩
          have HBy : Hid (Below w4.heap.size w4 w8) := bel_up HBx.out hb8 (Nat.le_refl _)
          obtain ⟨a8, cap8, rfl, hx8, _⟩ := ho8.at
          have HX8 := Hid_of (And.intro (HX7.out.keep hb8).at' hx8.at')
          clear hc2 ho8 hb8 hx8
          refine hK.out _ _ (HG.out _ HBy.out).2 (fun hHeld => ?_)
          clear hK Kk
          refine wpAnyH_ready (rs := [8]) (by kernel_rfl) (by simp) ?_
          refine (AllReadyH.cons (o := ?p8x9t) ?o8x9t ?s8x9t AllReadyH.nil)
          case o8x9t => (simp only [List.getElem?_toArray, List.getElem?_cons_succ, List.getElem?_cons_zero]; try rfl)
          intro Kk hK
          go_simp
          have hin := ints_any a7 cap7 a8 cap8 I w8 hIl HX8.out.1 HX8.out.2
          refine hin.mono ?_
          rintro e w9 ⟨rfl, hb9⟩
          have HBz : Hid (Below w4.heap.size w4 w9) := bel_up HBy.out hb9 (Nat.le_refl _)
          clear hin hb9
          refine hK.out _ _ (HG.out _ HBz.out).2 (fun hHeld => ?_)
          clear hK Kk
          refine wpAnyH_take (i := 9) (oi := ?p9x10t) (v := ?v9x10t) ?o9x10t (by kernel_rfl) (by kernel_rfl) (by kernel_rfl) ?q9x10t ?y9x10t hHeld ?r9x10t
          case o9x10t => (simp only [List.getElem?_toArray, List.getElem?_cons_succ, List.getElem?_cons_zero]; try rfl)
          case q9x10t => exact fun _ _ _ h => h
          case y9x10t => (refine Or.inl ⟨rfl, ?_⟩; intro wq hq; obtain ⟨q0, q1⟩ := hq; go_simp; try with_reducible rfl)
          simp only [Act.put, List.setIfInBounds_toArray, List.set_cons_zero, List.set_cons_succ]
          refine wpAnyH_done (by kernel_rfl) ?_ _
          have HREL := Hid_of (HG.out w9 HBz.out).1
          clear HG HBz HBy HBx HBD hHeld hsd
          go_wp2
          go_roundw
          case rel => exact ⟨k + 1, _, _, _, by omega, by go_num, HREL.out⟩
          case measure => simp [intOf]; omega
      · obtain rfl : k = l.length := by omega
        have HS := Hid_of hS
        have hN : l.length ≤ 100000 := by omega
        obtain ⟨tx, htx⟩ : ∃ tx, ofL (Rp.txt room T) = tx := ⟨_, rfl⟩
        obtain ⟨wd, hwd⟩ : ∃ wd, wr.drew = wd := ⟨_, rfl⟩
        have HBD : Hid (Below wr.heap.size wr wd) := by rw [← hwd]; exact (Below.refl _ _).drew
        have HG : Hid (∀ W, Below wr.heap.size wr W → PS w0 W F b l.length room T B dv ∧ (ld30 ⟨B, 0, none⟩).run Try.prog W = .ok (DA room dv) W) := fun W hW => ⟨HS.out.keep hW, (HS.out.keep hW).ld⟩
        have hsd := HG.out wd HBD.out
        clear hS HS HP3 HAT HOK HSZ
        go_upto_region 20 with fail
        refine wp_region_held_drew (S := fun wq => (ld30 ⟨B, 0, none⟩).run Try.prog wq = .ok (DA room dv) wq) (by kernel_rfl) (by rw [hwd]; exact hsd.2) (fun hHeld => ?_)
        rw [hwd] at hHeld ⊢
        clear hwd
        refine wpAnyH_take (i := 0) (oi := ?p0x1z) (v := ?v0x1z) ?o0x1z (by kernel_rfl) (by kernel_rfl) (by kernel_rfl) ?q0x1z ?y0x1z hHeld ?r0x1z
        case o0x1z => (simp only [List.getElem?_toArray, List.getElem?_cons_zero]; try rfl)
        case q0x1z => exact fun _ _ _ h => h
        case y0x1z => (refine Or.inl ⟨rfl, ?_⟩; intro wq hq; obtain q0 := hq; go_simp; try with_reducible rfl)
        simp only [Act.put, List.setIfInBounds_toArray, List.set_cons_zero, List.set_cons_succ]
        refine wpAnyH_take (i := 2) (oi := ?p2x2z) (v := ?v2x2z) ?o2x2z (by kernel_rfl) (by kernel_rfl) (by kernel_rfl) ?q2x2z ?y2x2z hHeld ?r2x2z
        case o2x2z => (simp only [List.getElem?_toArray, List.getElem?_cons_succ, List.getElem?_cons_zero]; try rfl)
        case q2x2z => exact fun _ _ _ h => h
        case y2x2z => (refine Or.inl ⟨rfl, ?_⟩; intro wq hq; obtain q0 := hq; go_simp; try with_reducible rfl)
        simp only [Act.put, List.setIfInBounds_toArray, List.set_cons_zero, List.set_cons_succ]
        refine wpAnyH_ready (rs := [1]) (by kernel_rfl) (by simp) ?_
        refine (AllReadyH.cons (o := ?p1x3z) ?o1x3z ?s1x3z AllReadyH.nil)
        case o1x3z => (simp only [List.getElem?_toArray, List.getElem?_cons_succ, List.getElem?_cons_zero]; try rfl)
        intro Kk hK
        go_simp
        have hc1 := hsd.1.ks.text hN
        rw [htx] at hc1
        refine hc1.mono ?_
        rintro e w7 ⟨rfl, hb7⟩
        have HBx : Hid (Below wr.heap.size wr w7) := bel_up HBD.out hb7 (Nat.le_refl _)
        clear hc1 hb7
        refine hK.out _ _ (HG.out _ HBx.out).2 (fun hHeld => ?_)
        clear hK Kk
        refine wpAnyH_ready (rs := [3]) (by kernel_rfl) (by simp) ?_
        refine (AllReadyH.cons (o := ?p3x4z) ?o3x4z ?s3x4z AllReadyH.nil)
        case o3x4z => (simp only [List.getElem?_toArray, List.getElem?_cons_succ, List.getElem?_cons_zero]; try rfl)
        intro Kk hK
        go_simp
        have hc1 := textD_any room (HG.out w7 HBx.out).1.dr (HG.out w7 HBx.out).1.ks.ok
        rw [htx] at hc1
        refine hc1.mono ?_
        rintro e w8 ⟨rfl, hb7⟩
        have HBy : Hid (Below wr.heap.size wr w8) := bel_up HBx.out hb7 (Nat.le_refl _)
        clear hc1 hb7
        refine hK.out _ _ (HG.out _ HBy.out).2 (fun hHeld => ?_)
        clear hK Kk
        refine wpAnyH_take (i := 4) (oi := ?p4x5z) (v := ?v4x5z) ?o4x5z (by kernel_rfl) (by kernel_rfl) (by kernel_rfl) ?q4x5z ?y4x5z hHeld ?r4x5z
        case o4x5z => (simp only [List.getElem?_toArray, List.getElem?_cons_succ, List.getElem?_cons_zero]; try rfl)
        case q4x5z => exact fun _ _ _ h => h
        case y4x5z => (refine Or.inl ⟨rfl, ?_⟩; intro wq hq; obtain q0 := hq; go_simp; try with_reducible rfl)
        simp only [Act.put, List.setIfInBounds_toArray, List.set_cons_zero, List.set_cons_succ]
        refine wpAnyH_take (i := 5) (oi := ?p5x6z) (v := ?v5x6z) ?o5x6z (by kernel_rfl) (by kernel_rfl) (by kernel_rfl) ?q5x6z ?y5x6z hHeld ?r5x6z
        case o5x6z => (simp only [List.getElem?_toArray, List.getElem?_cons_succ, List.getElem?_cons_zero]; try rfl)
        case q5x6z => exact fun _ _ _ h => h
        case y5x6z => (refine Or.inl ⟨rfl, ?_⟩; intro wq hq; obtain q0 := hq; go_simp; try with_reducible rfl)
        simp only [Act.put, List.setIfInBounds_toArray, List.set_cons_zero, List.set_cons_succ]
        refine wpAnyH_ready (rs := [6]) (by kernel_rfl) (by simp) ?_
        refine (AllReadyH.cons (o := ?p6x7z) ?o6x7z ?s6x7z AllReadyH.nil)
        case o6x7z => (simp only [List.getElem?_toArray, List.getElem?_cons_succ, List.getElem?_cons_zero]; try rfl)
        intro Kk hK
        go_simp
        refine (awake_any _).mono ?_
        rintro e w9 ⟨rfl, hb9⟩
        have HBz : Hid (Below wr.heap.size wr w9) := bel_up HBy.out hb9 (Nat.le_refl _)
        clear hb9
        refine hK.out _ _ (HG.out _ HBz.out).2 (fun hHeld => ?_)
        clear hK Kk
        refine wpAnyH_take (i := 7) (oi := ?p7x8z) (v := ?v7x8z) ?o7x8z (by kernel_rfl) (by kernel_rfl) (by kernel_rfl) ?q7x8z ?y7x8z hHeld ?r7x8z
        case o7x8z => (simp only [List.getElem?_toArray, List.getElem?_cons_succ, List.getElem?_cons_zero]; try rfl)
        case q7x8z => exact fun _ _ _ h => h
        case y7x8z => (refine Or.inl ⟨rfl, ?_⟩; intro wq hq; obtain q0 := hq; go_simp; try with_reducible rfl)
        simp only [Act.put, List.setIfInBounds_toArray, List.set_cons_zero, List.set_cons_succ]
        refine wpAnyH_take (i := 8) (oi := ?p8x9z) (v := ?v8x9z) ?o8x9z (by kernel_rfl) (by kernel_rfl) (by kernel_rfl) ?q8x9z ?y8x9z hHeld ?r8x9z
        case o8x9z => (simp only [List.getElem?_toArray, List.getElem?_cons_succ, List.getElem?_cons_zero]; try rfl)
        case q8x9z => exact fun _ _ _ h => h
        case y8x9z => (refine Or.inl ⟨rfl, ?_⟩; intro wq hq; obtain q0 := hq; go_simp; try with_reducible rfl)
        simp only [Act.put, List.setIfInBounds_toArray, List.set_cons_zero, List.set_cons_succ]
        refine wpAnyH_done (by kernel_rfl) ?_ _
        have HK := Hid_of (HG.out w9 HBz.out).1.ks.bel
        clear HG HBz HBy HBx HBD hHeld hsd
        go_wp2
        go_ret
        exact ⟨rfl, HK.out⟩
end Go.Proofs.Ytjbcchipbdkplaa
