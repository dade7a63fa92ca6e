/-
  The law AcceptorRises, walked.
-/
import Derived.Test.YtbbadfebajpeaaaPD
import Derived.Test.YtbbadfebajpeaaaME
namespace Go.Proofs.Ytbbadfebajpeaaa
open Go.RowKit
set_option linter.unusedVariables false
open M (E V)

set_option maxRecDepth 100000 in
set_option maxHeartbeats 8000000 in
theorem rises_walk (ad : Option Addr) (cap : Nat) (l : List D) (w : World) (hm : l.length ≤ maxLen) (hat : AtL dl w ad l) (hok : ∀ d ∈ l, d.v.v.size ≤ maxLen) :
    Calls Try.prog 4 #[.slice ad l.length cap] w fun e w' => e = .returned (.bool true) ∧ Below w.heap.size w w' := by
  have hfew := few_any ad cap l w hm hat hok
  have HAT := Hid_of hat
  clear hat hok hm
  go_enter Try.func4, Try.ntmps4
  go_wp2_with fail
  refine hfew.mono ?_
  rintro e w0 ⟨b0, rfl, hb0, rfl⟩
  clear hfew
  cases b0 with
  | false =>
    go_wp2_with fail
    refine (awake_any _).mono ?_
    rintro e w8 ⟨rfl, b8⟩
    have HB8 := Hid_of b8
    clear b8
    go_wp2
    go_ret
    exact ⟨rfl, HB8.out⟩
  | true =>
    obtain ⟨hl60, hsz⟩ := hb0 rfl
    have hnw := newA_any w0 w0 (Below.refl _ _)
    clear hb0 hsz
    go_wp2_with fail
    refine hnw.mono ?_
    rintro e w1 ⟨b, F1, rfl, S1, _, _⟩
    have HS1 := Hid_of S1
    clear hnw S1
    go_wp2
    go_loopw [4] (fun i wr => ∃ (k : Nat) (F : Nat → Prop) (s : M.S), k ≤ l.length ∧ i = .int .i64 k ∧ AS w0 wr F b s) (fun i _ => l.length - (intOf i).toNat)
    case atStart => exact ⟨0, F1, _, Nat.zero_le _, rfl, HS1.out⟩
    case round =>
      obtain ⟨k, F, s, hk, rfl, hS⟩ := hrel
      by_cases hlt : k < l.length
      · obtain ⟨g0, off, rfl, c0, c1, c2, c3, c4⟩ := (HAT.out.keep hS.bel).getD k hlt
        obtain ⟨W1, HW1⟩ : ∃ W1, Hid (wr.alloc (.cells #[.int .i64 l[k].v.s, .int .i64 l[k].v.b.i, .int .i64 l[k].v.b.t, .string l[k].v.v] 33) = W1) := ⟨_, Hid_of rfl⟩
        have hb1 : Below wr.heap.size wr W1 := by rw [← HW1.out]; exact bel1 wr _
        have hx1 : W1.heap[wr.heap.size]? = some (.cells #[.int .i64 l[k].v.s, .int .i64 l[k].v.b.i, .int .i64 l[k].v.b.t, .string l[k].v.v] 33 (0, 0)) := by rw [← HW1.out]; exact heap_alloc_last wr _
        have HV1 : Hid (BX W1 F wr.heap.size _) := ⟨hx1, fun e => by have := (hS.mine _ e).2; omega⟩
        have HS := Hid_of (hS.keep hb1)
        have HDK : Hid (∀ w', Below wr.heap.size wr w' → w'.cell? ⟨g0, off + k * 5, none⟩ = some (.int .i64 l[k].k)) := fun w' hb => (World.cell?_of_block (w := wr) (a := ⟨g0, off + k * 5, none⟩) (hb.block g0 (World.block_lt_of_cell? wr _ c0))).trans c0
        have HB1 := Hid_of hb1
        clear hS hb1 hx1
        generalize l[k].v = x at *
        generalize l[k].k = dk at *
        have hp := HS.out.promised
        go_upto_region 8 with fail
        rw [HW1.out]
        clear HW1
        go_wp2_with fail
        refine hp.mono ?_
        rintro e w2 ⟨rfl, hb2⟩
        have S2 := HS.out.keep hb2
        have hv := S2.votes 0
        rw [S2.ok.all] at hv
        have HV2 := Hid_of (HV1.out.up hb2)
        have HB2 := Hid_of (bel_up HB1.out hb2 (Nat.le_refl _))
        have HS2 := Hid_of S2
        have HM2 := Hid_of S2.mine
        clear hp hb2 S2 HV1 HB1 HS
        go_wp2_with fail
        refine hv.mono ?_
        rintro e w3 ⟨ad3, cp3, rfl, hxl3, hbk3, hb3⟩
        have X3 : XB w3 F ad3 cp3 s.l := ⟨hxl3, fun j hj => (hbk3 j hj).2, fun j hj hF => by have := (hbk3 j hj).1; have := (HM2.out j hF).2; omega⟩
        have hb4 := bel1 w3 (.cells #[.int .i64 s.p.i, .int .i64 s.p.t] 28)
        have hr4 := heap_alloc_last w3 (.cells #[.int .i64 s.p.i, .int .i64 s.p.t] 28)
        have S3 := HS2.out.keep hb3
        obtain ⟨W4, HW4⟩ : ∃ W4, Hid (w3.alloc (.cells #[.int .i64 s.p.i, .int .i64 s.p.t] 28) = W4) := ⟨_, Hid_of rfl⟩
        rw [HW4.out] at hb4 hr4
        obtain ⟨bw, hbw⟩ : ∃ bw, w3.heap.size = bw := ⟨_, rfl⟩
        rw [hbw] at hr4
        have HX4 := Hid_of (X3.up hb4)
        have HWb : Hid (BX W4 F bw _) := ⟨hr4, fun e => by have := (S3.mine _ e).2; omega⟩
        have HV4 := Hid_of ((HV2.out.up hb3).up hb4)
        have HS4 := Hid_of (S3.keep hb4)
        have HOKA := Hid_of S3.ok
        have hdk := HDK.out W4 (bel_up (bel_up HB2.out hb3 (Nat.le_refl _)) hb4 (Nat.le_refl _))
        obtain ⟨⟨y0, y1, y2, y3⟩, _⟩ := row4 HV4.out.row
        clear hv hxl3 hbk3 hb3 X3 hb4 hr4 S3 HM2 HS2 HV2 HB2 HDK c0 c1 c2 c3 c4
        go_upto_region 9 with fail
        rw [HW4.out]
        try rw [hbw]
        clear HW4 hbw
        have HW4 := HWb
        clear HWb
        by_cases hk0 : dk = 0
        · subst hk0
          clear HV4
          have hc := HS4.out.promise x.b x.s
          go_wp2_with fail
          refine hc.mono ?_
          rintro e w5 ⟨ad5, cp5, rfl, _, _, S5, Q5⟩
          have X5 := HX4.out.step Q5
          have B5 := HW4.out.step Q5
          have R5 := M.ris_pr HOKA.out x.b x.s
          obtain ⟨a2, ha2⟩ : ∃ a2, M.prs s x.b x.s = a2 := ⟨_, rfl⟩
          obtain ⟨F5, hF5⟩ : ∃ F5, F = F5 := ⟨_, rfl⟩
          rw [ha2] at S5 R5
          rw [hF5] at S5 X5 B5
          clear hc Q5 ha2 hF5 HS4 HX4 HW4
          -- the votes behind it
          have hv := S5.votes 0
          rw [S5.ok.all] at hv
          have HS5 := Hid_of S5
          have HX5 := Hid_of X5
          have HW5 := Hid_of B5
          have HR5 := Hid_of R5
          clear S5 X5 B5 R5
          go_wp2_with fail
          refine hv.mono ?_
          rintro e w7 ⟨ad7, cp7, rfl, hxl7, hbk7, hb7⟩
          have HS7 := Hid_of (HS5.out.keep hb7)
          have HX7 := Hid_of (HX5.out.up hb7)
          have HW7 := Hid_of (HW5.out.up hb7)
          have HN7 := Hid_of hxl7.at'
          have hln : a2.l.length ≤ 1024 := HS7.out.ok.len
          have hlv : s.l.length ≤ 1024 := HOKA.out.len
          clear hv hb7 hxl7 hbk7 HS5 HX5 HW5
          go_wp2
          go_loopw [9] (fun i wr2 => ∃ q : Nat, q ≤ s.l.length ∧ i = .int .i64 q ∧ Below w7.heap.size w7 wr2) (fun i _ => s.l.length - (intOf i).toNat)
          case atStart => exact ⟨0, Nat.zero_le _, rfl, Below.refl _ _⟩
          case round =>
            obtain ⟨q, hq, rfl, hbq⟩ := hrel
            by_cases hlq : q < s.l.length
            · have HBQ := Hid_of hbq
              clear hbq
              go_wp2
              go_loopw [10] (fun i wr3 => ∃ r : Nat, r ≤ a2.l.length ∧ i = .int .i64 r ∧ Below w7.heap.size w7 wr3) (fun i _ => a2.l.length - (intOf i).toNat)
              case atStart => exact ⟨0, Nat.zero_le _, rfl, HBQ.out⟩
              case round =>
                obtain ⟨r, hr, rfl, hbr⟩ := hrel
                by_cases hlr : r < a2.l.length
                · obtain ⟨g1, o1, rfl, c0, c1, c2, c3⟩ := HN7.out.getV r hlr
                  obtain ⟨g2, o2, e7, d0, d1, d2, d3⟩ := HX7.out.xl.at'.getV q hlq
                  cases e7
                  have HBR := Hid_of hbr
                  have hri : (r : Int) < (a2.l.length : Int) := by omega
                  have hqi : (q : Int) < (s.l.length : Int) := by omega
                  have HCM : Hid (a2.l[r].s = s.l[q].s → 0 ≤ M.cmpE a2.l[r].b s.l[q].b) := fun e => HR5.out.l _ (List.getElem_mem _) _ (List.getElem_mem _) e
                  have hcm := fun W => rcmp_any a2.l[r].b s.l[q].b W
                  have HS : Hid (∀ w', Below wr.heap.size wr w' → (w'.cell? ⟨g1, o1 + r * 4, none⟩ = some (.int .i64 a2.l[r].s) ∧ w'.cell? ⟨g1, o1 + r * 4 + 1, none⟩ = some (.int .i64 a2.l[r].b.i) ∧ w'.cell? ⟨g1, o1 + r * 4 + 2, none⟩ = some (.int .i64 a2.l[r].b.t)) ∧ (w'.cell? ⟨g2, o2 + q * 4, none⟩ = some (.int .i64 s.l[q].s) ∧ w'.cell? ⟨g2, o2 + q * 4 + 1, none⟩ = some (.int .i64 s.l[q].b.i) ∧ w'.cell? ⟨g2, o2 + q * 4 + 2, none⟩ = some (.int .i64 s.l[q].b.t))) := by
                    intro w' hb
                    have hb7 : Below w7.heap.size w7 w' := bel_up HBR.out hb (Nat.le_refl _)
                    have k1 : ∀ o v, w7.cell? ⟨g1, o, none⟩ = some v → w'.cell? ⟨g1, o, none⟩ = some v := fun o v h => (World.cell?_of_block (w := w7) (a := ⟨g1, o, none⟩) (hb7.block g1 (World.block_lt_of_cell? w7 _ h))).trans h
                    have k2 : ∀ o v, w7.cell? ⟨g2, o, none⟩ = some v → w'.cell? ⟨g2, o, none⟩ = some v := fun o v h => (World.cell?_of_block (w := w7) (a := ⟨g2, o, none⟩) (hb7.block g2 (World.block_lt_of_cell? w7 _ h))).trans h
                    exact ⟨⟨k1 _ _ c0, k1 _ _ c1, k1 _ _ c2⟩, ⟨k2 _ _ d0, k2 _ _ d1, k2 _ _ d2⟩⟩
                  clear c0 c1 c2 c3 d0 d1 d2 d3 hbr
                  generalize a2.l[r].s = xs at *
                  generalize a2.l[r].b = xb at *
                  generalize s.l[q].s = ys at *
                  generalize s.l[q].b = yb at *
                  by_cases hss : xs = ys
                  · have hcv : ¬ M.cmpE xb yb < 0 := by have := HCM.out hss; omega
                    generalize M.cmpE xb yb = cv at *
                    have dcv : decide (cv < 0) = false := decide_eq_false hcv
                    subst hss
                    clear HCM hcv
                    go_wp2_with fail
                    refine wp_region_held_drew (S := fun wq => Below (wr).heap.size (wr) wq) (by kernel_rfl) (Below.drew (Below.refl _ _)) (fun hHeld => ?_)
                    refine wpAnyH_take (i := 0) (oi := ?p0a0) (v := ?v0a0) ?o0a0 (by kernel_rfl) (by kernel_rfl) (by kernel_rfl) ?q0a0 ?y0a0 hHeld ?r0a0
                    case o0a0 => simp only [List.getElem?_toArray, List.getElem?_cons_zero]; rfl
                    case q0a0 => exact fun _ _ _ h => h
                    case y0a0 => (refine Or.inl ⟨rfl, ?_⟩; intro wq hq; obtain ⟨⟨z0, z1, z2⟩, ⟨y0, y1, y2⟩⟩ := HS.out wq hq; go_simp; try with_reducible rfl)
                    simp only [Act.put, List.setIfInBounds_toArray, List.set_cons_zero, List.set_cons_succ]
                    refine wpAnyH_take (i := 1) (oi := ?p1a0) (v := ?v1a0) ?o1a0 (by kernel_rfl) (by kernel_rfl) (by kernel_rfl) ?q1a0 ?y1a0 hHeld ?r1a0
                    case o1a0 => simp only [List.getElem?_toArray, List.getElem?_cons_succ, List.getElem?_cons_zero]; rfl
                    case q1a0 => exact fun _ _ _ h => h
                    case y1a0 => (refine Or.inl ⟨rfl, ?_⟩; intro wq hq; obtain ⟨⟨z0, z1, z2⟩, ⟨y0, y1, y2⟩⟩ := HS.out wq hq; go_simp; try with_reducible rfl)
                    simp only [Act.put, List.setIfInBounds_toArray, List.set_cons_zero, List.set_cons_succ]
                    refine wpAnyH_take (i := 2) (oi := ?p2a0) (v := ?v2a0) ?o2a0 (by kernel_rfl) (by kernel_rfl) (by kernel_rfl) ?q2a0 ?y2a0 hHeld ?r2a0
                    case o2a0 => simp only [List.getElem?_toArray, List.getElem?_cons_succ, List.getElem?_cons_zero]; rfl
                    case q2a0 => exact fun _ _ _ h => h
                    case y2a0 => (refine Or.inl ⟨rfl, ?_⟩; intro wq hq; obtain ⟨⟨z0, z1, z2⟩, ⟨y0, y1, y2⟩⟩ := HS.out wq hq; go_simp; try with_reducible rfl)
                    simp only [Act.put, List.setIfInBounds_toArray, List.set_cons_zero, List.set_cons_succ]
                    refine wpAnyH_take (i := 3) (oi := ?p3a0) (v := ?v3a0) ?o3a0 (by kernel_rfl) (by kernel_rfl) (by kernel_rfl) ?q3a0 ?y3a0 hHeld ?r3a0
                    case o3a0 => simp only [List.getElem?_toArray, List.getElem?_cons_succ, List.getElem?_cons_zero]; rfl
                    case q3a0 => exact fun _ _ _ h => h
                    case y3a0 => (refine Or.inl ⟨rfl, ?_⟩; intro wq hq; obtain ⟨⟨z0, z1, z2⟩, ⟨y0, y1, y2⟩⟩ := HS.out wq hq; go_simp; try with_reducible rfl)
                    simp only [Act.put, List.setIfInBounds_toArray, List.set_cons_zero, List.set_cons_succ]
                    refine wpAnyH_take (i := 4) (oi := ?p4a0) (v := ?v4a0) ?o4a0 (by kernel_rfl) (by kernel_rfl) (by kernel_rfl) ?q4a0 ?y4a0 hHeld ?r4a0
                    case o4a0 => simp only [List.getElem?_toArray, List.getElem?_cons_succ, List.getElem?_cons_zero]; rfl
                    case q4a0 => exact fun _ _ _ h => h
                    case y4a0 => (refine Or.inl ⟨rfl, ?_⟩; intro wq hq; obtain ⟨⟨z0, z1, z2⟩, ⟨y0, y1, y2⟩⟩ := HS.out wq hq; go_simp; try with_reducible rfl)
                    simp only [Act.put, List.setIfInBounds_toArray, List.set_cons_zero, List.set_cons_succ]
                    refine wpAnyH_take (i := 5) (oi := ?p5a0) (v := ?v5a0) ?o5a0 (by kernel_rfl) (by kernel_rfl) (by kernel_rfl) ?q5a0 ?y5a0 hHeld ?r5a0
                    case o5a0 => simp only [List.getElem?_toArray, List.getElem?_cons_succ, List.getElem?_cons_zero]; rfl
                    case q5a0 => exact fun _ _ _ h => h
                    case y5a0 => (refine Or.inl ⟨rfl, ?_⟩; intro wq hq; obtain ⟨⟨z0, z1, z2⟩, ⟨y0, y1, y2⟩⟩ := HS.out wq hq; go_simp; try with_reducible rfl)
                    simp only [Act.put, List.setIfInBounds_toArray, List.set_cons_zero, List.set_cons_succ]
                    refine wpAnyH_take (i := 6) (oi := ?p6a0) (v := ?v6a0) ?o6a0 (by kernel_rfl) (by kernel_rfl) (by kernel_rfl) ?q6a0 ?y6a0 hHeld ?r6a0
                    case o6a0 => simp only [List.getElem?_toArray, List.getElem?_cons_succ, List.getElem?_cons_zero]; rfl
                    case q6a0 => exact fun _ _ _ h => h
                    case y6a0 => (refine Or.inl ⟨rfl, ?_⟩; intro wq hq; obtain ⟨⟨z0, z1, z2⟩, ⟨y0, y1, y2⟩⟩ := HS.out wq hq; go_simp; try with_reducible rfl)
                    simp only [Act.put, List.setIfInBounds_toArray, List.set_cons_zero, List.set_cons_succ]
                    refine wpAnyH_take (i := 7) (oi := ?p7a0) (v := ?v7a0) ?o7a0 (by kernel_rfl) (by kernel_rfl) (by kernel_rfl) ?q7a0 ?y7a0 hHeld ?r7a0
                    case o7a0 => simp only [List.getElem?_toArray, List.getElem?_cons_succ, List.getElem?_cons_zero]; rfl
                    case q7a0 => exact fun _ _ _ h => h
                    case y7a0 => (refine Or.inl ⟨rfl, ?_⟩; intro wq hq; obtain ⟨⟨z0, z1, z2⟩, ⟨y0, y1, y2⟩⟩ := HS.out wq hq; go_simp; try with_reducible rfl)
                    simp only [Act.put, List.setIfInBounds_toArray, List.set_cons_zero, List.set_cons_succ]
                    refine wpAnyH_take (i := 8) (oi := ?p8a0) (v := ?v8a0) ?o8a0 (by kernel_rfl) (by kernel_rfl) (by kernel_rfl) ?q8a0 ?y8a0 hHeld ?r8a0
                    case o8a0 => simp only [List.getElem?_toArray, List.getElem?_cons_succ, List.getElem?_cons_zero]; rfl
                    case q8a0 => exact fun _ _ _ h => h
                    case y8a0 => (refine Or.inl ⟨rfl, ?_⟩; intro wq hq; obtain ⟨⟨z0, z1, z2⟩, ⟨y0, y1, y2⟩⟩ := HS.out wq hq; go_simp; try with_reducible rfl)
                    simp only [Act.put, List.setIfInBounds_toArray, List.set_cons_zero, List.set_cons_succ]
                    refine wpAnyH_take (i := 9) (oi := ?p9a0) (v := ?v9a0) ?o9a0 (by kernel_rfl) (by kernel_rfl) (by kernel_rfl) ?q9a0 ?y9a0 hHeld ?r9a0
                    case o9a0 => simp only [List.getElem?_toArray, List.getElem?_cons_succ, List.getElem?_cons_zero]; rfl
                    case q9a0 => exact fun _ _ _ h => h
                    case y9a0 => (refine Or.inl ⟨rfl, ?_⟩; intro wq hq; obtain ⟨⟨z0, z1, z2⟩, ⟨y0, y1, y2⟩⟩ := HS.out wq hq; go_simp; try with_reducible rfl)
                    simp only [Act.put, List.setIfInBounds_toArray, List.set_cons_zero, List.set_cons_succ]
                    refine wpAnyH_take (i := 10) (oi := ?p10a0) (v := ?v10a0) ?o10a0 (by kernel_rfl) (by kernel_rfl) (by kernel_rfl) ?q10a0 ?y10a0 hHeld ?r10a0
                    case o10a0 => simp only [List.getElem?_toArray, List.getElem?_cons_succ, List.getElem?_cons_zero]; rfl
                    case q10a0 => exact fun _ _ _ h => h
                    case y10a0 => (refine Or.inl ⟨rfl, ?_⟩; intro wq hq; obtain ⟨⟨z0, z1, z2⟩, ⟨y0, y1, y2⟩⟩ := HS.out wq hq; go_simp; try with_reducible rfl)
                    simp only [Act.put, List.setIfInBounds_toArray, List.set_cons_zero, List.set_cons_succ]
                    refine wpAnyH_take (i := 11) (oi := ?p11a0) (v := ?v11a0) ?o11a0 (by kernel_rfl) (by kernel_rfl) (by kernel_rfl) ?q11a0 ?y11a0 hHeld ?r11a0
                    case o11a0 => simp only [List.getElem?_toArray, List.getElem?_cons_succ, List.getElem?_cons_zero]; rfl
                    case q11a0 => exact fun _ _ _ h => h
                    case y11a0 => (refine Or.inl ⟨rfl, ?_⟩; intro wq hq; obtain ⟨⟨z0, z1, z2⟩, ⟨y0, y1, y2⟩⟩ := HS.out wq hq; go_simp; try with_reducible rfl)
                    simp only [Act.put, List.setIfInBounds_toArray, List.set_cons_zero, List.set_cons_succ]
                    refine wpAnyH_take (i := 12) (oi := ?p12a0) (v := ?v12a0) ?o12a0 (by kernel_rfl) (by kernel_rfl) (by kernel_rfl) ?q12a0 ?y12a0 hHeld ?r12a0
                    case o12a0 => simp only [List.getElem?_toArray, List.getElem?_cons_succ, List.getElem?_cons_zero]; rfl
                    case q12a0 => exact fun _ _ _ h => h
                    case y12a0 => (refine Or.inl ⟨rfl, ?_⟩; intro wq hq; obtain ⟨⟨z0, z1, z2⟩, ⟨y0, y1, y2⟩⟩ := HS.out wq hq; go_simp; try with_reducible rfl)
                    simp only [Act.put, List.setIfInBounds_toArray, List.set_cons_zero, List.set_cons_succ]
                    refine wpAnyH_take (i := 13) (oi := ?p13a0) (v := ?v13a0) ?o13a0 (by kernel_rfl) (by kernel_rfl) (by kernel_rfl) ?q13a0 ?y13a0 hHeld ?r13a0
                    case o13a0 => simp only [List.getElem?_toArray, List.getElem?_cons_succ, List.getElem?_cons_zero]; rfl
                    case q13a0 => exact fun _ _ _ h => h
                    case y13a0 => (refine Or.inl ⟨rfl, ?_⟩; intro wq hq; obtain ⟨⟨z0, z1, z2⟩, ⟨y0, y1, y2⟩⟩ := HS.out wq hq; go_simp; try with_reducible rfl)
                    simp only [Act.put, List.setIfInBounds_toArray, List.set_cons_zero, List.set_cons_succ]
                    refine wpAnyH_take (i := 14) (oi := ?p14a0) (v := ?v14a0) ?o14a0 (by kernel_rfl) (by kernel_rfl) (by kernel_rfl) ?q14a0 ?y14a0 hHeld ?r14a0
                    case o14a0 => simp only [List.getElem?_toArray, List.getElem?_cons_succ, List.getElem?_cons_zero]; rfl
                    case q14a0 => exact fun _ _ _ h => h
                    case y14a0 => (refine Or.inl ⟨rfl, ?_⟩; intro wq hq; obtain ⟨⟨z0, z1, z2⟩, ⟨y0, y1, y2⟩⟩ := HS.out wq hq; go_simp; try with_reducible rfl)
                    simp only [Act.put, List.setIfInBounds_toArray, List.set_cons_zero, List.set_cons_succ]
                    refine wpAnyH_take (i := 15) (oi := ?p15a0) (v := ?v15a0) ?o15a0 (by kernel_rfl) (by kernel_rfl) (by kernel_rfl) ?q15a0 ?y15a0 hHeld ?r15a0
                    case o15a0 => simp only [List.getElem?_toArray, List.getElem?_cons_succ, List.getElem?_cons_zero]; rfl
                    case q15a0 => exact fun _ _ _ h => h
                    case y15a0 => (refine Or.inl ⟨rfl, ?_⟩; intro wq hq; obtain ⟨⟨z0, z1, z2⟩, ⟨y0, y1, y2⟩⟩ := HS.out wq hq; go_simp; try with_reducible rfl)
                    simp only [Act.put, List.setIfInBounds_toArray, List.set_cons_zero, List.set_cons_succ]
                    refine wpAnyH_take (i := 16) (oi := ?p16a0) (v := ?v16a0) ?o16a0 (by kernel_rfl) (by kernel_rfl) (by kernel_rfl) ?q16a0 ?y16a0 hHeld ?r16a0
                    case o16a0 => simp only [List.getElem?_toArray, List.getElem?_cons_succ, List.getElem?_cons_zero]; rfl
                    case q16a0 => exact fun _ _ _ h => h
                    case y16a0 => (refine Or.inl ⟨rfl, ?_⟩; intro wq hq; obtain ⟨⟨z0, z1, z2⟩, ⟨y0, y1, y2⟩⟩ := HS.out wq hq; go_simp; try with_reducible rfl)
                    simp only [Act.put, List.setIfInBounds_toArray, List.set_cons_zero, List.set_cons_succ]
                    refine wpAnyH_take (i := 17) (oi := ?p17a0) (v := ?v17a0) ?o17a0 (by kernel_rfl) (by kernel_rfl) (by kernel_rfl) ?q17a0 ?y17a0 hHeld ?r17a0
                    case o17a0 => simp only [List.getElem?_toArray, List.getElem?_cons_succ, List.getElem?_cons_zero]; rfl
                    case q17a0 => exact fun _ _ _ h => h
                    case y17a0 => (refine Or.inl ⟨rfl, ?_⟩; intro wq hq; obtain ⟨⟨z0, z1, z2⟩, ⟨y0, y1, y2⟩⟩ := HS.out wq hq; go_simp; try with_reducible rfl)
                    simp only [Act.put, List.setIfInBounds_toArray, List.set_cons_zero, List.set_cons_succ]
                    refine wpAnyH_take (i := 18) (oi := ?p18a0) (v := ?v18a0) ?o18a0 (by kernel_rfl) (by kernel_rfl) (by kernel_rfl) ?q18a0 ?y18a0 hHeld ?r18a0
                    case o18a0 => simp only [List.getElem?_toArray, List.getElem?_cons_succ, List.getElem?_cons_zero]; rfl
                    case q18a0 => exact fun _ _ _ h => h
                    case y18a0 => (refine Or.inl ⟨rfl, ?_⟩; intro wq hq; obtain ⟨⟨z0, z1, z2⟩, ⟨y0, y1, y2⟩⟩ := HS.out wq hq; go_simp; try with_reducible rfl)
                    simp only [Act.put, List.setIfInBounds_toArray, List.set_cons_zero, List.set_cons_succ]
                    refine wpAnyH_take (i := 19) (oi := ?p19a0) (v := ?v19a0) ?o19a0 (by kernel_rfl) (by kernel_rfl) (by kernel_rfl) ?q19a0 ?y19a0 hHeld ?r19a0
                    case o19a0 => simp only [List.getElem?_toArray, List.getElem?_cons_succ, List.getElem?_cons_zero]; rfl
                    case q19a0 => exact fun _ _ _ h => h
                    case y19a0 => (refine Or.inl ⟨rfl, ?_⟩; intro wq hq; obtain ⟨⟨z0, z1, z2⟩, ⟨y0, y1, y2⟩⟩ := HS.out wq hq; go_simp; try with_reducible rfl)
                    simp only [Act.put, List.setIfInBounds_toArray, List.set_cons_zero, List.set_cons_succ]
                    refine wpAnyH_take (i := 20) (oi := ?p20a0) (v := ?v20a0) ?o20a0 (by kernel_rfl) (by kernel_rfl) (by kernel_rfl) ?q20a0 ?y20a0 hHeld ?r20a0
                    case o20a0 => simp only [List.getElem?_toArray, List.getElem?_cons_succ, List.getElem?_cons_zero]; rfl
                    case q20a0 => exact fun _ _ _ h => h
                    case y20a0 => (refine Or.inl ⟨rfl, ?_⟩; intro wq hq; obtain ⟨⟨z0, z1, z2⟩, ⟨y0, y1, y2⟩⟩ := HS.out wq hq; go_simp; try with_reducible rfl)
                    simp only [Act.put, List.setIfInBounds_toArray, List.set_cons_zero, List.set_cons_succ]
                    refine wpAnyH_take (i := 21) (oi := ?p21a0) (v := ?v21a0) ?o21a0 (by kernel_rfl) (by kernel_rfl) (by kernel_rfl) ?q21a0 ?y21a0 hHeld ?r21a0
                    case o21a0 => simp only [List.getElem?_toArray, List.getElem?_cons_succ, List.getElem?_cons_zero]; rfl
                    case q21a0 => exact fun _ _ _ h => h
                    case y21a0 => (refine Or.inl ⟨rfl, ?_⟩; intro wq hq; obtain ⟨⟨z0, z1, z2⟩, ⟨y0, y1, y2⟩⟩ := HS.out wq hq; go_simp; try with_reducible rfl)
                    simp only [Act.put, List.setIfInBounds_toArray, List.set_cons_zero, List.set_cons_succ]
                    refine wpAnyH_ready (rs := [22]) (by kernel_rfl) (by simp) ?_
                    refine AllReadyH.cons (o := ?p22a0) ?o22a0 ?s22a0 AllReadyH.nil
                    case o22a0 => simp only [List.getElem?_toArray, List.getElem?_cons_succ, List.getElem?_cons_zero]; rfl
                    intro K hK
                    go_simp
                    refine (hcm _).mono ?_
                    rintro e v22 ⟨rfl, hb⟩
                    have B22 : Below wr.heap.size wr v22 := hHeld.trans (hb.mono hHeld.size)
                    clear hb
                    refine hK.out _ _ B22 (fun hHeld => ?_)
                    clear hK K
                    refine wpAnyH_take (i := 23) (oi := ?p23a0) (v := ?v23a0) ?o23a0 (by kernel_rfl) (by kernel_rfl) (by kernel_rfl) ?q23a0 ?y23a0 hHeld ?r23a0
                    case o23a0 => simp only [List.getElem?_toArray, List.getElem?_cons_succ, List.getElem?_cons_zero]; rfl
                    case q23a0 => exact fun _ _ _ h => h
                    case y23a0 => (refine Or.inl ⟨rfl, ?_⟩; intro wq hq; obtain ⟨⟨z0, z1, z2⟩, ⟨y0, y1, y2⟩⟩ := HS.out wq hq; go_simp; try with_reducible rfl)
                    simp only [Act.put, List.setIfInBounds_toArray, List.set_cons_zero, List.set_cons_succ]
                    refine wpAnyH_take (i := 24) (oi := ?p24a0) (v := ?v24a0) ?o24a0 (by kernel_rfl) (by kernel_rfl) (by kernel_rfl) ?q24a0 ?y24a0 hHeld ?r24a0
                    case o24a0 => simp only [List.getElem?_toArray, List.getElem?_cons_succ, List.getElem?_cons_zero]; rfl
                    case q24a0 => exact fun _ _ _ h => h
                    case y24a0 => (refine Or.inl ⟨rfl, ?_⟩; intro wq hq; obtain ⟨⟨z0, z1, z2⟩, ⟨y0, y1, y2⟩⟩ := HS.out wq hq; go_simp; try with_reducible rfl)
                    simp only [Act.put, List.setIfInBounds_toArray, List.set_cons_zero, List.set_cons_succ]
                    refine wpAnyH_done (by kernel_rfl) ?_ _
                    have HBF := Hid_of (bel_up HBR.out hHeld (Nat.le_refl _))
                    clear hHeld
                    go_wp2
                    go_roundw
                    case rel => exact ⟨r + 1, by omega, by go_num, HBF.out⟩
                    case measure => simp [intOf]; omega
                  · have hss' : (xs == ys) = false := by simpa using hss
                    clear HCM
                    go_wp2_with fail
                    refine wp_region_held_drew (S := fun wq => Below (wr).heap.size (wr) wq) (by kernel_rfl) (Below.drew (Below.refl _ _)) (fun hHeld => ?_)
                    refine wpAnyH_take (i := 0) (oi := ?p0a1) (v := ?v0a1) ?o0a1 (by kernel_rfl) (by kernel_rfl) (by kernel_rfl) ?q0a1 ?y0a1 hHeld ?r0a1
                    case o0a1 => simp only [List.getElem?_toArray, List.getElem?_cons_zero]; rfl
                    case q0a1 => exact fun _ _ _ h => h
                    case y0a1 => (refine Or.inl ⟨rfl, ?_⟩; intro wq hq; obtain ⟨⟨z0, z1, z2⟩, ⟨y0, y1, y2⟩⟩ := HS.out wq hq; go_simp; try with_reducible rfl)
                    simp only [Act.put, List.setIfInBounds_toArray, List.set_cons_zero, List.set_cons_succ]
                    refine wpAnyH_take (i := 1) (oi := ?p1a1) (v := ?v1a1) ?o1a1 (by kernel_rfl) (by kernel_rfl) (by kernel_rfl) ?q1a1 ?y1a1 hHeld ?r1a1
                    case o1a1 => simp only [List.getElem?_toArray, List.getElem?_cons_succ, List.getElem?_cons_zero]; rfl
                    case q1a1 => exact fun _ _ _ h => h
                    case y1a1 => (refine Or.inl ⟨rfl, ?_⟩; intro wq hq; obtain ⟨⟨z0, z1, z2⟩, ⟨y0, y1, y2⟩⟩ := HS.out wq hq; go_simp; try with_reducible rfl)
                    simp only [Act.put, List.setIfInBounds_toArray, List.set_cons_zero, List.set_cons_succ]
                    refine wpAnyH_take (i := 2) (oi := ?p2a1) (v := ?v2a1) ?o2a1 (by kernel_rfl) (by kernel_rfl) (by kernel_rfl) ?q2a1 ?y2a1 hHeld ?r2a1
                    case o2a1 => simp only [List.getElem?_toArray, List.getElem?_cons_succ, List.getElem?_cons_zero]; rfl
                    case q2a1 => exact fun _ _ _ h => h
                    case y2a1 => (refine Or.inl ⟨rfl, ?_⟩; intro wq hq; obtain ⟨⟨z0, z1, z2⟩, ⟨y0, y1, y2⟩⟩ := HS.out wq hq; go_simp; try with_reducible rfl)
                    simp only [Act.put, List.setIfInBounds_toArray, List.set_cons_zero, List.set_cons_succ]
                    refine wpAnyH_take (i := 3) (oi := ?p3a1) (v := ?v3a1) ?o3a1 (by kernel_rfl) (by kernel_rfl) (by kernel_rfl) ?q3a1 ?y3a1 hHeld ?r3a1
                    case o3a1 => simp only [List.getElem?_toArray, List.getElem?_cons_succ, List.getElem?_cons_zero]; rfl
                    case q3a1 => exact fun _ _ _ h => h
                    case y3a1 => (refine Or.inl ⟨rfl, ?_⟩; intro wq hq; obtain ⟨⟨z0, z1, z2⟩, ⟨y0, y1, y2⟩⟩ := HS.out wq hq; go_simp; try with_reducible rfl)
                    simp only [Act.put, List.setIfInBounds_toArray, List.set_cons_zero, List.set_cons_succ]
                    refine wpAnyH_take (i := 4) (oi := ?p4a1) (v := ?v4a1) ?o4a1 (by kernel_rfl) (by kernel_rfl) (by kernel_rfl) ?q4a1 ?y4a1 hHeld ?r4a1
                    case o4a1 => simp only [List.getElem?_toArray, List.getElem?_cons_succ, List.getElem?_cons_zero]; rfl
                    case q4a1 => exact fun _ _ _ h => h
                    case y4a1 => (refine Or.inl ⟨rfl, ?_⟩; intro wq hq; obtain ⟨⟨z0, z1, z2⟩, ⟨y0, y1, y2⟩⟩ := HS.out wq hq; go_simp; try with_reducible rfl)
                    simp only [Act.put, List.setIfInBounds_toArray, List.set_cons_zero, List.set_cons_succ]
                    refine wpAnyH_take (i := 5) (oi := ?p5a1) (v := ?v5a1) ?o5a1 (by kernel_rfl) (by kernel_rfl) (by kernel_rfl) ?q5a1 ?y5a1 hHeld ?r5a1
                    case o5a1 => simp only [List.getElem?_toArray, List.getElem?_cons_succ, List.getElem?_cons_zero]; rfl
                    case q5a1 => exact fun _ _ _ h => h
                    case y5a1 => (refine Or.inl ⟨rfl, ?_⟩; intro wq hq; obtain ⟨⟨z0, z1, z2⟩, ⟨y0, y1, y2⟩⟩ := HS.out wq hq; go_simp; try with_reducible rfl)
                    simp only [Act.put, List.setIfInBounds_toArray, List.set_cons_zero, List.set_cons_succ]
                    refine wpAnyH_take (i := 6) (oi := ?p6a1) (v := ?v6a1) ?o6a1 (by kernel_rfl) (by kernel_rfl) (by kernel_rfl) ?q6a1 ?y6a1 hHeld ?r6a1
                    case o6a1 => simp only [List.getElem?_toArray, List.getElem?_cons_succ, List.getElem?_cons_zero]; rfl
                    case q6a1 => exact fun _ _ _ h => h
                    case y6a1 => (refine Or.inl ⟨rfl, ?_⟩; intro wq hq; obtain ⟨⟨z0, z1, z2⟩, ⟨y0, y1, y2⟩⟩ := HS.out wq hq; go_simp; try with_reducible rfl)
                    simp only [Act.put, List.setIfInBounds_toArray, List.set_cons_zero, List.set_cons_succ]
                    refine wpAnyH_take (i := 7) (oi := ?p7a1) (v := ?v7a1) ?o7a1 (by kernel_rfl) (by kernel_rfl) (by kernel_rfl) ?q7a1 ?y7a1 hHeld ?r7a1
                    case o7a1 => simp only [List.getElem?_toArray, List.getElem?_cons_succ, List.getElem?_cons_zero]; rfl
                    case q7a1 => exact fun _ _ _ h => h
                    case y7a1 => (refine Or.inl ⟨rfl, ?_⟩; intro wq hq; obtain ⟨⟨z0, z1, z2⟩, ⟨y0, y1, y2⟩⟩ := HS.out wq hq; go_simp; try with_reducible rfl)
                    simp only [Act.put, List.setIfInBounds_toArray, List.set_cons_zero, List.set_cons_succ]
                    refine wpAnyH_take (i := 8) (oi := ?p8a1) (v := ?v8a1) ?o8a1 (by kernel_rfl) (by kernel_rfl) (by kernel_rfl) ?q8a1 ?y8a1 hHeld ?r8a1
                    case o8a1 => simp only [List.getElem?_toArray, List.getElem?_cons_succ, List.getElem?_cons_zero]; rfl
                    case q8a1 => exact fun _ _ _ h => h
                    case y8a1 => (refine Or.inl ⟨rfl, ?_⟩; intro wq hq; obtain ⟨⟨z0, z1, z2⟩, ⟨y0, y1, y2⟩⟩ := HS.out wq hq; go_simp; try with_reducible rfl)
                    simp only [Act.put, List.setIfInBounds_toArray, List.set_cons_zero, List.set_cons_succ]
                    refine wpAnyH_take (i := 9) (oi := ?p9a1) (v := ?v9a1) ?o9a1 (by kernel_rfl) (by kernel_rfl) (by kernel_rfl) ?q9a1 ?y9a1 hHeld ?r9a1
                    case o9a1 => simp only [List.getElem?_toArray, List.getElem?_cons_succ, List.getElem?_cons_zero]; rfl
                    case q9a1 => exact fun _ _ _ h => h
                    case y9a1 => (refine Or.inl ⟨rfl, ?_⟩; intro wq hq; obtain ⟨⟨z0, z1, z2⟩, ⟨y0, y1, y2⟩⟩ := HS.out wq hq; go_simp; try with_reducible rfl)
                    simp only [Act.put, List.setIfInBounds_toArray, List.set_cons_zero, List.set_cons_succ]
                    refine wpAnyH_take (i := 10) (oi := ?p10a1) (v := ?v10a1) ?o10a1 (by kernel_rfl) (by kernel_rfl) (by kernel_rfl) ?q10a1 ?y10a1 hHeld ?r10a1
                    case o10a1 => simp only [List.getElem?_toArray, List.getElem?_cons_succ, List.getElem?_cons_zero]; rfl
                    case q10a1 => exact fun _ _ _ h => h
                    case y10a1 => (refine Or.inl ⟨rfl, ?_⟩; intro wq hq; obtain ⟨⟨z0, z1, z2⟩, ⟨y0, y1, y2⟩⟩ := HS.out wq hq; go_simp; try with_reducible rfl)
                    simp only [Act.put, List.setIfInBounds_toArray, List.set_cons_zero, List.set_cons_succ]
                    refine wpAnyH_take (i := 11) (oi := ?p11a1) (v := ?v11a1) ?o11a1 (by kernel_rfl) (by kernel_rfl) (by kernel_rfl) ?q11a1 ?y11a1 hHeld ?r11a1
                    case o11a1 => simp only [List.getElem?_toArray, List.getElem?_cons_succ, List.getElem?_cons_zero]; rfl
                    case q11a1 => exact fun _ _ _ h => h
                    case y11a1 => (refine Or.inl ⟨rfl, ?_⟩; intro wq hq; obtain ⟨⟨z0, z1, z2⟩, ⟨y0, y1, y2⟩⟩ := HS.out wq hq; go_simp; try with_reducible rfl)
                    simp only [Act.put, List.setIfInBounds_toArray, List.set_cons_zero, List.set_cons_succ]
                    refine wpAnyH_take (i := 12) (oi := ?p12a1) (v := undef) ?o12a1 (by kernel_rfl) (by kernel_rfl) (by kernel_rfl) ?q12a1 ?y12a1 hHeld ?r12a1
                    case o12a1 => simp only [List.getElem?_toArray, List.getElem?_cons_succ, List.getElem?_cons_zero]; rfl
                    case q12a1 => exact fun _ _ _ h => h
                    case y12a1 => exact Or.inr ⟨rfl, rfl⟩
                    simp only [Act.put, List.setIfInBounds_toArray, List.set_cons_zero, List.set_cons_succ]
                    refine wpAnyH_take (i := 13) (oi := ?p13a1) (v := undef) ?o13a1 (by kernel_rfl) (by kernel_rfl) (by kernel_rfl) ?q13a1 ?y13a1 hHeld ?r13a1
                    case o13a1 => simp only [List.getElem?_toArray, List.getElem?_cons_succ, List.getElem?_cons_zero]; rfl
                    case q13a1 => exact fun _ _ _ h => h
                    case y13a1 => exact Or.inr ⟨rfl, rfl⟩
                    simp only [Act.put, List.setIfInBounds_toArray, List.set_cons_zero, List.set_cons_succ]
                    refine wpAnyH_take (i := 14) (oi := ?p14a1) (v := undef) ?o14a1 (by kernel_rfl) (by kernel_rfl) (by kernel_rfl) ?q14a1 ?y14a1 hHeld ?r14a1
                    case o14a1 => simp only [List.getElem?_toArray, List.getElem?_cons_succ, List.getElem?_cons_zero]; rfl
                    case q14a1 => exact fun _ _ _ h => h
                    case y14a1 => exact Or.inr ⟨rfl, rfl⟩
                    simp only [Act.put, List.setIfInBounds_toArray, List.set_cons_zero, List.set_cons_succ]
                    refine wpAnyH_take (i := 15) (oi := ?p15a1) (v := undef) ?o15a1 (by kernel_rfl) (by kernel_rfl) (by kernel_rfl) ?q15a1 ?y15a1 hHeld ?r15a1
                    case o15a1 => simp only [List.getElem?_toArray, List.getElem?_cons_succ, List.getElem?_cons_zero]; rfl
                    case q15a1 => exact fun _ _ _ h => h
                    case y15a1 => exact Or.inr ⟨rfl, rfl⟩
                    simp only [Act.put, List.setIfInBounds_toArray, List.set_cons_zero, List.set_cons_succ]
                    refine wpAnyH_take (i := 16) (oi := ?p16a1) (v := undef) ?o16a1 (by kernel_rfl) (by kernel_rfl) (by kernel_rfl) ?q16a1 ?y16a1 hHeld ?r16a1
                    case o16a1 => simp only [List.getElem?_toArray, List.getElem?_cons_succ, List.getElem?_cons_zero]; rfl
                    case q16a1 => exact fun _ _ _ h => h
                    case y16a1 => exact Or.inr ⟨rfl, rfl⟩
                    simp only [Act.put, List.setIfInBounds_toArray, List.set_cons_zero, List.set_cons_succ]
                    refine wpAnyH_take (i := 17) (oi := ?p17a1) (v := undef) ?o17a1 (by kernel_rfl) (by kernel_rfl) (by kernel_rfl) ?q17a1 ?y17a1 hHeld ?r17a1
                    case o17a1 => simp only [List.getElem?_toArray, List.getElem?_cons_succ, List.getElem?_cons_zero]; rfl
                    case q17a1 => exact fun _ _ _ h => h
                    case y17a1 => exact Or.inr ⟨rfl, rfl⟩
                    simp only [Act.put, List.setIfInBounds_toArray, List.set_cons_zero, List.set_cons_succ]
                    refine wpAnyH_take (i := 18) (oi := ?p18a1) (v := undef) ?o18a1 (by kernel_rfl) (by kernel_rfl) (by kernel_rfl) ?q18a1 ?y18a1 hHeld ?r18a1
                    case o18a1 => simp only [List.getElem?_toArray, List.getElem?_cons_succ, List.getElem?_cons_zero]; rfl
                    case q18a1 => exact fun _ _ _ h => h
                    case y18a1 => exact Or.inr ⟨rfl, rfl⟩
                    simp only [Act.put, List.setIfInBounds_toArray, List.set_cons_zero, List.set_cons_succ]
                    refine wpAnyH_take (i := 19) (oi := ?p19a1) (v := undef) ?o19a1 (by kernel_rfl) (by kernel_rfl) (by kernel_rfl) ?q19a1 ?y19a1 hHeld ?r19a1
                    case o19a1 => simp only [List.getElem?_toArray, List.getElem?_cons_succ, List.getElem?_cons_zero]; rfl
                    case q19a1 => exact fun _ _ _ h => h
                    case y19a1 => exact Or.inr ⟨rfl, rfl⟩
                    simp only [Act.put, List.setIfInBounds_toArray, List.set_cons_zero, List.set_cons_succ]
                    refine wpAnyH_take (i := 20) (oi := ?p20a1) (v := undef) ?o20a1 (by kernel_rfl) (by kernel_rfl) (by kernel_rfl) ?q20a1 ?y20a1 hHeld ?r20a1
                    case o20a1 => simp only [List.getElem?_toArray, List.getElem?_cons_succ, List.getElem?_cons_zero]; rfl
                    case q20a1 => exact fun _ _ _ h => h
                    case y20a1 => exact Or.inr ⟨rfl, rfl⟩
                    simp only [Act.put, List.setIfInBounds_toArray, List.set_cons_zero, List.set_cons_succ]
                    refine wpAnyH_take (i := 21) (oi := ?p21a1) (v := undef) ?o21a1 (by kernel_rfl) (by kernel_rfl) (by kernel_rfl) ?q21a1 ?y21a1 hHeld ?r21a1
                    case o21a1 => simp only [List.getElem?_toArray, List.getElem?_cons_succ, List.getElem?_cons_zero]; rfl
                    case q21a1 => exact fun _ _ _ h => h
                    case y21a1 => exact Or.inr ⟨rfl, rfl⟩
                    simp only [Act.put, List.setIfInBounds_toArray, List.set_cons_zero, List.set_cons_succ]
                    refine wpAnyH_take (i := 22) (oi := ?p22a1) (v := undef) ?o22a1 (by kernel_rfl) (by kernel_rfl) (by kernel_rfl) ?q22a1 ?y22a1 hHeld ?r22a1
                    case o22a1 => simp only [List.getElem?_toArray, List.getElem?_cons_succ, List.getElem?_cons_zero]; rfl
                    case q22a1 => exact fun _ _ _ h => h
                    case y22a1 => exact Or.inr ⟨rfl, rfl⟩
                    simp only [Act.put, List.setIfInBounds_toArray, List.set_cons_zero, List.set_cons_succ]
                    refine wpAnyH_take (i := 23) (oi := ?p23a1) (v := undef) ?o23a1 (by kernel_rfl) (by kernel_rfl) (by kernel_rfl) ?q23a1 ?y23a1 hHeld ?r23a1
                    case o23a1 => simp only [List.getElem?_toArray, List.getElem?_cons_succ, List.getElem?_cons_zero]; rfl
                    case q23a1 => exact fun _ _ _ h => h
                    case y23a1 => exact Or.inr ⟨rfl, rfl⟩
                    simp only [Act.put, List.setIfInBounds_toArray, List.set_cons_zero, List.set_cons_succ]
                    refine wpAnyH_take (i := 24) (oi := ?p24a1) (v := ?v24a1) ?o24a1 (by kernel_rfl) (by kernel_rfl) (by kernel_rfl) ?q24a1 ?y24a1 hHeld ?r24a1
                    case o24a1 => simp only [List.getElem?_toArray, List.getElem?_cons_succ, List.getElem?_cons_zero]; rfl
                    case q24a1 => exact fun _ _ _ h => h
                    case y24a1 => (refine Or.inl ⟨rfl, ?_⟩; intro wq hq; obtain ⟨⟨z0, z1, z2⟩, ⟨y0, y1, y2⟩⟩ := HS.out wq hq; go_simp; try with_reducible rfl)
                    simp only [Act.put, List.setIfInBounds_toArray, List.set_cons_zero, List.set_cons_succ]
                    refine wpAnyH_done (by kernel_rfl) ?_ _
                    have HBF := Hid_of (bel_up HBR.out hHeld (Nat.le_refl _))
                    clear hHeld
                    go_wp2
                    go_roundw
                    case rel => exact ⟨r + 1, by omega, by go_num, HBF.out⟩
                    case measure => simp [intOf]; omega
                · obtain rfl : r = a2.l.length := by omega
                  have HBR := Hid_of hbr
                  clear hbr
                  go_wp2
                  go_roundw
                  case rel => exact ⟨q + 1, by omega, by go_num, HBR.out⟩
                  case measure => simp [intOf]; omega
            · obtain rfl : q = s.l.length := by omega
              have HS8 := Hid_of (HS7.out.keep hbq)
              have HPM : Hid (∀ W, Below wr.heap.size wr W → Calls Try.prog 17 #[.pointer (some ⟨b, 0, none⟩)] W fun e w' => e = .returned (bV a2.p) ∧ Below W.heap.size W w') := fun W hW => (HS8.out.keep hW).promised
              have HW8 := Hid_of (HW7.out.up hbq).row
              have HS : Hid (∀ w', Below wr.heap.size wr w' → (w'.cell? ⟨bw, 0, none⟩ = some (.int .i64 s.p.i) ∧ w'.cell? ⟨bw, 1, none⟩ = some (.int .i64 s.p.t))) := fun w' hb => (row2 (bel_row HW8.out hb)).1
              have hcm := fun W => rcmp_any a2.p s.p W
              have hcv : ¬ M.cmpE a2.p s.p < 0 := by have := HR5.out.p; omega
              generalize M.cmpE a2.p s.p = cv at *
              have dcv : decide (cv < 0) = false := decide_eq_false hcv
              clear hbq hcv HX7 HN7 HW7 HS7
              go_wp2_with fail
              refine wp_region_held_drew (S := fun wq => Below (wr).heap.size (wr) wq) (by kernel_rfl) (Below.drew (Below.refl _ _)) (fun hHeld => ?_)
              refine wpAnyH_take (i := 0) (oi := ?p0a2) (v := ?v0a2) ?o0a2 (by kernel_rfl) (by kernel_rfl) (by kernel_rfl) ?q0a2 ?y0a2 hHeld ?r0a2
              case o0a2 => simp only [List.getElem?_toArray, List.getElem?_cons_zero]; rfl
              case q0a2 => exact fun _ _ _ h => h
              case y0a2 => (refine Or.inl ⟨rfl, ?_⟩; intro wq hq; obtain ⟨y0, y1⟩ := HS.out wq hq; go_simp; try with_reducible rfl)
              simp only [Act.put, List.setIfInBounds_toArray, List.set_cons_zero, List.set_cons_succ]
              refine wpAnyH_take (i := 2) (oi := ?p2a2) (v := ?v2a2) ?o2a2 (by kernel_rfl) (by kernel_rfl) (by kernel_rfl) ?q2a2 ?y2a2 hHeld ?r2a2
              case o2a2 => simp only [List.getElem?_toArray, List.getElem?_cons_succ, List.getElem?_cons_zero]; rfl
              case q2a2 => exact fun _ _ _ h => h
              case y2a2 => (refine Or.inl ⟨rfl, ?_⟩; intro wq hq; obtain ⟨y0, y1⟩ := HS.out wq hq; go_simp; try with_reducible rfl)
              simp only [Act.put, List.setIfInBounds_toArray, List.set_cons_zero, List.set_cons_succ]
              refine wpAnyH_ready (rs := [1]) (by kernel_rfl) (by simp) ?_
              refine AllReadyH.cons (o := ?p1a2) ?o1a2 ?s1a2 AllReadyH.nil
              case o1a2 => simp only [List.getElem?_toArray, List.getElem?_cons_succ, List.getElem?_cons_zero]; rfl
              intro K hK
              go_simp
              refine (HPM.out _ hHeld).mono ?_
              rintro e v1 ⟨rfl, hb⟩
              have B1 : Below wr.heap.size wr v1 := hHeld.trans (hb.mono hHeld.size)
              clear hb
              refine hK.out _ _ B1 (fun hHeld => ?_)
              clear hK K
              refine wpAnyH_ready (rs := [3]) (by kernel_rfl) (by simp) ?_
              refine AllReadyH.cons (o := ?p3a2) ?o3a2 ?s3a2 AllReadyH.nil
              case o3a2 => simp only [List.getElem?_toArray, List.getElem?_cons_succ, List.getElem?_cons_zero]; rfl
              intro K hK
              go_simp
              refine (hcm _).mono ?_
              rintro e v3 ⟨rfl, hb⟩
              have B3 : Below wr.heap.size wr v3 := hHeld.trans (hb.mono hHeld.size)
              clear hb
              refine hK.out _ _ B3 (fun hHeld => ?_)
              clear hK K
              refine wpAnyH_take (i := 4) (oi := ?p4a2) (v := ?v4a2) ?o4a2 (by kernel_rfl) (by kernel_rfl) (by kernel_rfl) ?q4a2 ?y4a2 hHeld ?r4a2
              case o4a2 => simp only [List.getElem?_toArray, List.getElem?_cons_succ, List.getElem?_cons_zero]; rfl
              case q4a2 => exact fun _ _ _ h => h
              case y4a2 => (refine Or.inl ⟨rfl, ?_⟩; intro wq hq; obtain ⟨y0, y1⟩ := HS.out wq hq; go_simp; try with_reducible rfl)
              simp only [Act.put, List.setIfInBounds_toArray, List.set_cons_zero, List.set_cons_succ]
              refine wpAnyH_done (by kernel_rfl) ?_ _
              have HSF := Hid_of (HS8.out.keep hHeld)
              clear hHeld HPM HS
              go_wp2
              go_roundw
              case rel => exact ⟨k + 1, F5, a2, by omega, by go_num, HSF.out⟩
              case measure => simp [intOf]; omega
        · by_cases hk1 : dk = 1
          · subst hk1
            have hc := HS4.out.accept x
            have HMY : Hid (M.acb s x = true → 0 ≤ M.cmpE x.b s.p) := fun h => M.may_yes (M.acb_yes h).1
            go_wp2_with fail
            refine hc.mono ?_
            rintro e w5 ⟨F5, rfl, S5, Q5⟩
            have X5 := HX4.out.step Q5
            have B5 := HW4.out.step Q5
            have V5 := HV4.out.step Q5
            have R5 := M.ris_ac HOKA.out x
            obtain ⟨a2, ha2⟩ : ∃ a2, M.acs s x = a2 := ⟨_, rfl⟩
            rw [ha2] at S5 R5
            clear hc Q5 ha2 HS4 HX4 HW4 HV4
            cases hab : M.acb s x with
            | true =>
              have hcm := rcmp_any x.b s.p w5
              have hcv : ¬ M.cmpE x.b s.p < 0 := by have := HMY.out hab; omega
              generalize M.cmpE x.b s.p = cw at *
              have dcv : decide (cw < 0) = false := decide_eq_false hcv
              obtain ⟨⟨y0, y1, y2, y3⟩, _⟩ := row4 V5.row
              obtain ⟨⟨x0, x1⟩, _⟩ := row2 B5.row
              have HS5 := Hid_of S5
              have HX5 := Hid_of X5
              have HW5 := Hid_of B5
              have HR5 := Hid_of R5
              clear S5 X5 B5 R5 V5 HMY hab
              go_wp2_with fail
              refine hcm.mono ?_
              rintro e w6 ⟨rfl, hb6⟩
              have S5 := HS5.out.keep hb6
              have X5 := HX5.out.up hb6
              have B5 := HW5.out.up hb6
              have R5 := HR5.out
              clear hcm hb6 HS5 HX5 HW5 HR5 y0 y1 y2 y3 x0 x1
              -- the votes behind it
              have hv := S5.votes 0
              rw [S5.ok.all] at hv
              have HS5 := Hid_of S5
              have HX5 := Hid_of X5
              have HW5 := Hid_of B5
              have HR5 := Hid_of R5
              clear S5 X5 B5 R5
              go_wp2_with fail
              refine hv.mono ?_
              rintro e w7 ⟨ad7, cp7, rfl, hxl7, hbk7, hb7⟩
              have HS7 := Hid_of (HS5.out.keep hb7)
              have HX7 := Hid_of (HX5.out.up hb7)
              have HW7 := Hid_of (HW5.out.up hb7)
              have HN7 := Hid_of hxl7.at'
              have hln : a2.l.length ≤ 1024 := HS7.out.ok.len
              have hlv : s.l.length ≤ 1024 := HOKA.out.len
              clear hv hb7 hxl7 hbk7 HS5 HX5 HW5
              go_wp2
              go_loopw [9] (fun i wr2 => ∃ q : Nat, q ≤ s.l.length ∧ i = .int .i64 q ∧ Below w7.heap.size w7 wr2) (fun i _ => s.l.length - (intOf i).toNat)
              case atStart => exact ⟨0, Nat.zero_le _, rfl, Below.refl _ _⟩
              case round =>
                obtain ⟨q, hq, rfl, hbq⟩ := hrel
                by_cases hlq : q < s.l.length
                · have HBQ := Hid_of hbq
                  clear hbq
                  go_wp2
                  go_loopw [10] (fun i wr3 => ∃ r : Nat, r ≤ a2.l.length ∧ i = .int .i64 r ∧ Below w7.heap.size w7 wr3) (fun i _ => a2.l.length - (intOf i).toNat)
                  case atStart => exact ⟨0, Nat.zero_le _, rfl, HBQ.out⟩
                  case round =>
                    obtain ⟨r, hr, rfl, hbr⟩ := hrel
                    by_cases hlr : r < a2.l.length
                    · obtain ⟨g1, o1, rfl, c0, c1, c2, c3⟩ := HN7.out.getV r hlr
                      obtain ⟨g2, o2, e7, d0, d1, d2, d3⟩ := HX7.out.xl.at'.getV q hlq
                      cases e7
                      have HBR := Hid_of hbr
                      have hri : (r : Int) < (a2.l.length : Int) := by omega
                      have hqi : (q : Int) < (s.l.length : Int) := by omega
                      have HCM : Hid (a2.l[r].s = s.l[q].s → 0 ≤ M.cmpE a2.l[r].b s.l[q].b) := fun e => HR5.out.l _ (List.getElem_mem _) _ (List.getElem_mem _) e
                      have hcm := fun W => rcmp_any a2.l[r].b s.l[q].b W
                      have HS : Hid (∀ w', Below wr.heap.size wr w' → (w'.cell? ⟨g1, o1 + r * 4, none⟩ = some (.int .i64 a2.l[r].s) ∧ w'.cell? ⟨g1, o1 + r * 4 + 1, none⟩ = some (.int .i64 a2.l[r].b.i) ∧ w'.cell? ⟨g1, o1 + r * 4 + 2, none⟩ = some (.int .i64 a2.l[r].b.t)) ∧ (w'.cell? ⟨g2, o2 + q * 4, none⟩ = some (.int .i64 s.l[q].s) ∧ w'.cell? ⟨g2, o2 + q * 4 + 1, none⟩ = some (.int .i64 s.l[q].b.i) ∧ w'.cell? ⟨g2, o2 + q * 4 + 2, none⟩ = some (.int .i64 s.l[q].b.t))) := by
                        intro w' hb
                        have hb7 : Below w7.heap.size w7 w' := bel_up HBR.out hb (Nat.le_refl _)
                        have k1 : ∀ o v, w7.cell? ⟨g1, o, none⟩ = some v → w'.cell? ⟨g1, o, none⟩ = some v := fun o v h => (World.cell?_of_block (w := w7) (a := ⟨g1, o, none⟩) (hb7.block g1 (World.block_lt_of_cell? w7 _ h))).trans h
                        have k2 : ∀ o v, w7.cell? ⟨g2, o, none⟩ = some v → w'.cell? ⟨g2, o, none⟩ = some v := fun o v h => (World.cell?_of_block (w := w7) (a := ⟨g2, o, none⟩) (hb7.block g2 (World.block_lt_of_cell? w7 _ h))).trans h
                        exact ⟨⟨k1 _ _ c0, k1 _ _ c1, k1 _ _ c2⟩, ⟨k2 _ _ d0, k2 _ _ d1, k2 _ _ d2⟩⟩
                      clear c0 c1 c2 c3 d0 d1 d2 d3 hbr
                      generalize a2.l[r].s = xs at *
                      generalize a2.l[r].b = xb at *
                      generalize s.l[q].s = ys at *
                      generalize s.l[q].b = yb at *
                      by_cases hss : xs = ys
                      · have hcv : ¬ M.cmpE xb yb < 0 := by have := HCM.out hss; omega
                        generalize M.cmpE xb yb = cv at *
                        have dcv : decide (cv < 0) = false := decide_eq_false hcv
                        subst hss
                        clear HCM hcv
                        go_wp2_with fail
                        refine wp_region_held_drew (S := fun wq => Below (wr).heap.size (wr) wq) (by kernel_rfl) (Below.drew (Below.refl _ _)) (fun hHeld => ?_)
                        refine wpAnyH_take (i := 0) (oi := ?p0bt0) (v := ?v0bt0) ?o0bt0 (by kernel_rfl) (by kernel_rfl) (by kernel_rfl) ?q0bt0 ?y0bt0 hHeld ?r0bt0
                        case o0bt0 => simp only [List.getElem?_toArray, List.getElem?_cons_zero]; rfl
                        case q0bt0 => exact fun _ _ _ h => h
                        case y0bt0 => (refine Or.inl ⟨rfl, ?_⟩; intro wq hq; obtain ⟨⟨z0, z1, z2⟩, ⟨y0, y1, y2⟩⟩ := HS.out wq hq; go_simp; try with_reducible rfl)
                        simp only [Act.put, List.setIfInBounds_toArray, List.set_cons_zero, List.set_cons_succ]
                        refine wpAnyH_take (i := 1) (oi := ?p1bt0) (v := ?v1bt0) ?o1bt0 (by kernel_rfl) (by kernel_rfl) (by kernel_rfl) ?q1bt0 ?y1bt0 hHeld ?r1bt0
                        case o1bt0 => simp only [List.getElem?_toArray, List.getElem?_cons_succ, List.getElem?_cons_zero]; rfl
                        case q1bt0 => exact fun _ _ _ h => h
                        case y1bt0 => (refine Or.inl ⟨rfl, ?_⟩; intro wq hq; obtain ⟨⟨z0, z1, z2⟩, ⟨y0, y1, y2⟩⟩ := HS.out wq hq; go_simp; try with_reducible rfl)
                        simp only [Act.put, List.setIfInBounds_toArray, List.set_cons_zero, List.set_cons_succ]
                        refine wpAnyH_take (i := 2) (oi := ?p2bt0) (v := ?v2bt0) ?o2bt0 (by kernel_rfl) (by kernel_rfl) (by kernel_rfl) ?q2bt0 ?y2bt0 hHeld ?r2bt0
                        case o2bt0 => simp only [List.getElem?_toArray, List.getElem?_cons_succ, List.getElem?_cons_zero]; rfl
                        case q2bt0 => exact fun _ _ _ h => h
                        case y2bt0 => (refine Or.inl ⟨rfl, ?_⟩; intro wq hq; obtain ⟨⟨z0, z1, z2⟩, ⟨y0, y1, y2⟩⟩ := HS.out wq hq; go_simp; try with_reducible rfl)
                        simp only [Act.put, List.setIfInBounds_toArray, List.set_cons_zero, List.set_cons_succ]
                        refine wpAnyH_take (i := 3) (oi := ?p3bt0) (v := ?v3bt0) ?o3bt0 (by kernel_rfl) (by kernel_rfl) (by kernel_rfl) ?q3bt0 ?y3bt0 hHeld ?r3bt0
                        case o3bt0 => simp only [List.getElem?_toArray, List.getElem?_cons_succ, List.getElem?_cons_zero]; rfl
                        case q3bt0 => exact fun _ _ _ h => h
                        case y3bt0 => (refine Or.inl ⟨rfl, ?_⟩; intro wq hq; obtain ⟨⟨z0, z1, z2⟩, ⟨y0, y1, y2⟩⟩ := HS.out wq hq; go_simp; try with_reducible rfl)
                        simp only [Act.put, List.setIfInBounds_toArray, List.set_cons_zero, List.set_cons_succ]
                        refine wpAnyH_take (i := 4) (oi := ?p4bt0) (v := ?v4bt0) ?o4bt0 (by kernel_rfl) (by kernel_rfl) (by kernel_rfl) ?q4bt0 ?y4bt0 hHeld ?r4bt0
                        case o4bt0 => simp only [List.getElem?_toArray, List.getElem?_cons_succ, List.getElem?_cons_zero]; rfl
                        case q4bt0 => exact fun _ _ _ h => h
                        case y4bt0 => (refine Or.inl ⟨rfl, ?_⟩; intro wq hq; obtain ⟨⟨z0, z1, z2⟩, ⟨y0, y1, y2⟩⟩ := HS.out wq hq; go_simp; try with_reducible rfl)
                        simp only [Act.put, List.setIfInBounds_toArray, List.set_cons_zero, List.set_cons_succ]
                        refine wpAnyH_take (i := 5) (oi := ?p5bt0) (v := ?v5bt0) ?o5bt0 (by kernel_rfl) (by kernel_rfl) (by kernel_rfl) ?q5bt0 ?y5bt0 hHeld ?r5bt0
                        case o5bt0 => simp only [List.getElem?_toArray, List.getElem?_cons_succ, List.getElem?_cons_zero]; rfl
                        case q5bt0 => exact fun _ _ _ h => h
                        case y5bt0 => (refine Or.inl ⟨rfl, ?_⟩; intro wq hq; obtain ⟨⟨z0, z1, z2⟩, ⟨y0, y1, y2⟩⟩ := HS.out wq hq; go_simp; try with_reducible rfl)
                        simp only [Act.put, List.setIfInBounds_toArray, List.set_cons_zero, List.set_cons_succ]
                        refine wpAnyH_take (i := 6) (oi := ?p6bt0) (v := ?v6bt0) ?o6bt0 (by kernel_rfl) (by kernel_rfl) (by kernel_rfl) ?q6bt0 ?y6bt0 hHeld ?r6bt0
                        case o6bt0 => simp only [List.getElem?_toArray, List.getElem?_cons_succ, List.getElem?_cons_zero]; rfl
                        case q6bt0 => exact fun _ _ _ h => h
                        case y6bt0 => (refine Or.inl ⟨rfl, ?_⟩; intro wq hq; obtain ⟨⟨z0, z1, z2⟩, ⟨y0, y1, y2⟩⟩ := HS.out wq hq; go_simp; try with_reducible rfl)
                        simp only [Act.put, List.setIfInBounds_toArray, List.set_cons_zero, List.set_cons_succ]
                        refine wpAnyH_take (i := 7) (oi := ?p7bt0) (v := ?v7bt0) ?o7bt0 (by kernel_rfl) (by kernel_rfl) (by kernel_rfl) ?q7bt0 ?y7bt0 hHeld ?r7bt0
                        case o7bt0 => simp only [List.getElem?_toArray, List.getElem?_cons_succ, List.getElem?_cons_zero]; rfl
                        case q7bt0 => exact fun _ _ _ h => h
                        case y7bt0 => (refine Or.inl ⟨rfl, ?_⟩; intro wq hq; obtain ⟨⟨z0, z1, z2⟩, ⟨y0, y1, y2⟩⟩ := HS.out wq hq; go_simp; try with_reducible rfl)
                        simp only [Act.put, List.setIfInBounds_toArray, List.set_cons_zero, List.set_cons_succ]
                        refine wpAnyH_take (i := 8) (oi := ?p8bt0) (v := ?v8bt0) ?o8bt0 (by kernel_rfl) (by kernel_rfl) (by kernel_rfl) ?q8bt0 ?y8bt0 hHeld ?r8bt0
                        case o8bt0 => simp only [List.getElem?_toArray, List.getElem?_cons_succ, List.getElem?_cons_zero]; rfl
                        case q8bt0 => exact fun _ _ _ h => h
                        case y8bt0 => (refine Or.inl ⟨rfl, ?_⟩; intro wq hq; obtain ⟨⟨z0, z1, z2⟩, ⟨y0, y1, y2⟩⟩ := HS.out wq hq; go_simp; try with_reducible rfl)
                        simp only [Act.put, List.setIfInBounds_toArray, List.set_cons_zero, List.set_cons_succ]
                        refine wpAnyH_take (i := 9) (oi := ?p9bt0) (v := ?v9bt0) ?o9bt0 (by kernel_rfl) (by kernel_rfl) (by kernel_rfl) ?q9bt0 ?y9bt0 hHeld ?r9bt0
                        case o9bt0 => simp only [List.getElem?_toArray, List.getElem?_cons_succ, List.getElem?_cons_zero]; rfl
                        case q9bt0 => exact fun _ _ _ h => h
                        case y9bt0 => (refine Or.inl ⟨rfl, ?_⟩; intro wq hq; obtain ⟨⟨z0, z1, z2⟩, ⟨y0, y1, y2⟩⟩ := HS.out wq hq; go_simp; try with_reducible rfl)
                        simp only [Act.put, List.setIfInBounds_toArray, List.set_cons_zero, List.set_cons_succ]
                        refine wpAnyH_take (i := 10) (oi := ?p10bt0) (v := ?v10bt0) ?o10bt0 (by kernel_rfl) (by kernel_rfl) (by kernel_rfl) ?q10bt0 ?y10bt0 hHeld ?r10bt0
                        case o10bt0 => simp only [List.getElem?_toArray, List.getElem?_cons_succ, List.getElem?_cons_zero]; rfl
                        case q10bt0 => exact fun _ _ _ h => h
                        case y10bt0 => (refine Or.inl ⟨rfl, ?_⟩; intro wq hq; obtain ⟨⟨z0, z1, z2⟩, ⟨y0, y1, y2⟩⟩ := HS.out wq hq; go_simp; try with_reducible rfl)
                        simp only [Act.put, List.setIfInBounds_toArray, List.set_cons_zero, List.set_cons_succ]
                        refine wpAnyH_take (i := 11) (oi := ?p11bt0) (v := ?v11bt0) ?o11bt0 (by kernel_rfl) (by kernel_rfl) (by kernel_rfl) ?q11bt0 ?y11bt0 hHeld ?r11bt0
                        case o11bt0 => simp only [List.getElem?_toArray, List.getElem?_cons_succ, List.getElem?_cons_zero]; rfl
                        case q11bt0 => exact fun _ _ _ h => h
                        case y11bt0 => (refine Or.inl ⟨rfl, ?_⟩; intro wq hq; obtain ⟨⟨z0, z1, z2⟩, ⟨y0, y1, y2⟩⟩ := HS.out wq hq; go_simp; try with_reducible rfl)
                        simp only [Act.put, List.setIfInBounds_toArray, List.set_cons_zero, List.set_cons_succ]
                        refine wpAnyH_take (i := 12) (oi := ?p12bt0) (v := ?v12bt0) ?o12bt0 (by kernel_rfl) (by kernel_rfl) (by kernel_rfl) ?q12bt0 ?y12bt0 hHeld ?r12bt0
                        case o12bt0 => simp only [List.getElem?_toArray, List.getElem?_cons_succ, List.getElem?_cons_zero]; rfl
                        case q12bt0 => exact fun _ _ _ h => h
                        case y12bt0 => (refine Or.inl ⟨rfl, ?_⟩; intro wq hq; obtain ⟨⟨z0, z1, z2⟩, ⟨y0, y1, y2⟩⟩ := HS.out wq hq; go_simp; try with_reducible rfl)
                        simp only [Act.put, List.setIfInBounds_toArray, List.set_cons_zero, List.set_cons_succ]
                        refine wpAnyH_take (i := 13) (oi := ?p13bt0) (v := ?v13bt0) ?o13bt0 (by kernel_rfl) (by kernel_rfl) (by kernel_rfl) ?q13bt0 ?y13bt0 hHeld ?r13bt0
                        case o13bt0 => simp only [List.getElem?_toArray, List.getElem?_cons_succ, List.getElem?_cons_zero]; rfl
                        case q13bt0 => exact fun _ _ _ h => h
                        case y13bt0 => (refine Or.inl ⟨rfl, ?_⟩; intro wq hq; obtain ⟨⟨z0, z1, z2⟩, ⟨y0, y1, y2⟩⟩ := HS.out wq hq; go_simp; try with_reducible rfl)
                        simp only [Act.put, List.setIfInBounds_toArray, List.set_cons_zero, List.set_cons_succ]
                        refine wpAnyH_take (i := 14) (oi := ?p14bt0) (v := ?v14bt0) ?o14bt0 (by kernel_rfl) (by kernel_rfl) (by kernel_rfl) ?q14bt0 ?y14bt0 hHeld ?r14bt0
                        case o14bt0 => simp only [List.getElem?_toArray, List.getElem?_cons_succ, List.getElem?_cons_zero]; rfl
                        case q14bt0 => exact fun _ _ _ h => h
                        case y14bt0 => (refine Or.inl ⟨rfl, ?_⟩; intro wq hq; obtain ⟨⟨z0, z1, z2⟩, ⟨y0, y1, y2⟩⟩ := HS.out wq hq; go_simp; try with_reducible rfl)
                        simp only [Act.put, List.setIfInBounds_toArray, List.set_cons_zero, List.set_cons_succ]
                        refine wpAnyH_take (i := 15) (oi := ?p15bt0) (v := ?v15bt0) ?o15bt0 (by kernel_rfl) (by kernel_rfl) (by kernel_rfl) ?q15bt0 ?y15bt0 hHeld ?r15bt0
                        case o15bt0 => simp only [List.getElem?_toArray, List.getElem?_cons_succ, List.getElem?_cons_zero]; rfl
                        case q15bt0 => exact fun _ _ _ h => h
                        case y15bt0 => (refine Or.inl ⟨rfl, ?_⟩; intro wq hq; obtain ⟨⟨z0, z1, z2⟩, ⟨y0, y1, y2⟩⟩ := HS.out wq hq; go_simp; try with_reducible rfl)
                        simp only [Act.put, List.setIfInBounds_toArray, List.set_cons_zero, List.set_cons_succ]
                        refine wpAnyH_take (i := 16) (oi := ?p16bt0) (v := ?v16bt0) ?o16bt0 (by kernel_rfl) (by kernel_rfl) (by kernel_rfl) ?q16bt0 ?y16bt0 hHeld ?r16bt0
                        case o16bt0 => simp only [List.getElem?_toArray, List.getElem?_cons_succ, List.getElem?_cons_zero]; rfl
                        case q16bt0 => exact fun _ _ _ h => h
                        case y16bt0 => (refine Or.inl ⟨rfl, ?_⟩; intro wq hq; obtain ⟨⟨z0, z1, z2⟩, ⟨y0, y1, y2⟩⟩ := HS.out wq hq; go_simp; try with_reducible rfl)
                        simp only [Act.put, List.setIfInBounds_toArray, List.set_cons_zero, List.set_cons_succ]
                        refine wpAnyH_take (i := 17) (oi := ?p17bt0) (v := ?v17bt0) ?o17bt0 (by kernel_rfl) (by kernel_rfl) (by kernel_rfl) ?q17bt0 ?y17bt0 hHeld ?r17bt0
                        case o17bt0 => simp only [List.getElem?_toArray, List.getElem?_cons_succ, List.getElem?_cons_zero]; rfl
                        case q17bt0 => exact fun _ _ _ h => h
                        case y17bt0 => (refine Or.inl ⟨rfl, ?_⟩; intro wq hq; obtain ⟨⟨z0, z1, z2⟩, ⟨y0, y1, y2⟩⟩ := HS.out wq hq; go_simp; try with_reducible rfl)
                        simp only [Act.put, List.setIfInBounds_toArray, List.set_cons_zero, List.set_cons_succ]
                        refine wpAnyH_take (i := 18) (oi := ?p18bt0) (v := ?v18bt0) ?o18bt0 (by kernel_rfl) (by kernel_rfl) (by kernel_rfl) ?q18bt0 ?y18bt0 hHeld ?r18bt0
                        case o18bt0 => simp only [List.getElem?_toArray, List.getElem?_cons_succ, List.getElem?_cons_zero]; rfl
                        case q18bt0 => exact fun _ _ _ h => h
                        case y18bt0 => (refine Or.inl ⟨rfl, ?_⟩; intro wq hq; obtain ⟨⟨z0, z1, z2⟩, ⟨y0, y1, y2⟩⟩ := HS.out wq hq; go_simp; try with_reducible rfl)
                        simp only [Act.put, List.setIfInBounds_toArray, List.set_cons_zero, List.set_cons_succ]
                        refine wpAnyH_take (i := 19) (oi := ?p19bt0) (v := ?v19bt0) ?o19bt0 (by kernel_rfl) (by kernel_rfl) (by kernel_rfl) ?q19bt0 ?y19bt0 hHeld ?r19bt0
                        case o19bt0 => simp only [List.getElem?_toArray, List.getElem?_cons_succ, List.getElem?_cons_zero]; rfl
                        case q19bt0 => exact fun _ _ _ h => h
                        case y19bt0 => (refine Or.inl ⟨rfl, ?_⟩; intro wq hq; obtain ⟨⟨z0, z1, z2⟩, ⟨y0, y1, y2⟩⟩ := HS.out wq hq; go_simp; try with_reducible rfl)
                        simp only [Act.put, List.setIfInBounds_toArray, List.set_cons_zero, List.set_cons_succ]
                        refine wpAnyH_take (i := 20) (oi := ?p20bt0) (v := ?v20bt0) ?o20bt0 (by kernel_rfl) (by kernel_rfl) (by kernel_rfl) ?q20bt0 ?y20bt0 hHeld ?r20bt0
                        case o20bt0 => simp only [List.getElem?_toArray, List.getElem?_cons_succ, List.getElem?_cons_zero]; rfl
                        case q20bt0 => exact fun _ _ _ h => h
                        case y20bt0 => (refine Or.inl ⟨rfl, ?_⟩; intro wq hq; obtain ⟨⟨z0, z1, z2⟩, ⟨y0, y1, y2⟩⟩ := HS.out wq hq; go_simp; try with_reducible rfl)
                        simp only [Act.put, List.setIfInBounds_toArray, List.set_cons_zero, List.set_cons_succ]
                        refine wpAnyH_take (i := 21) (oi := ?p21bt0) (v := ?v21bt0) ?o21bt0 (by kernel_rfl) (by kernel_rfl) (by kernel_rfl) ?q21bt0 ?y21bt0 hHeld ?r21bt0
                        case o21bt0 => simp only [List.getElem?_toArray, List.getElem?_cons_succ, List.getElem?_cons_zero]; rfl
                        case q21bt0 => exact fun _ _ _ h => h
                        case y21bt0 => (refine Or.inl ⟨rfl, ?_⟩; intro wq hq; obtain ⟨⟨z0, z1, z2⟩, ⟨y0, y1, y2⟩⟩ := HS.out wq hq; go_simp; try with_reducible rfl)
                        simp only [Act.put, List.setIfInBounds_toArray, List.set_cons_zero, List.set_cons_succ]
                        refine wpAnyH_ready (rs := [22]) (by kernel_rfl) (by simp) ?_
                        refine AllReadyH.cons (o := ?p22bt0) ?o22bt0 ?s22bt0 AllReadyH.nil
                        case o22bt0 => simp only [List.getElem?_toArray, List.getElem?_cons_succ, List.getElem?_cons_zero]; rfl
                        intro K hK
                        go_simp
                        refine (hcm _).mono ?_
                        rintro e v22 ⟨rfl, hb⟩
                        have B22 : Below wr.heap.size wr v22 := hHeld.trans (hb.mono hHeld.size)
                        clear hb
                        refine hK.out _ _ B22 (fun hHeld => ?_)
                        clear hK K
                        refine wpAnyH_take (i := 23) (oi := ?p23bt0) (v := ?v23bt0) ?o23bt0 (by kernel_rfl) (by kernel_rfl) (by kernel_rfl) ?q23bt0 ?y23bt0 hHeld ?r23bt0
                        case o23bt0 => simp only [List.getElem?_toArray, List.getElem?_cons_succ, List.getElem?_cons_zero]; rfl
                        case q23bt0 => exact fun _ _ _ h => h
                        case y23bt0 => (refine Or.inl ⟨rfl, ?_⟩; intro wq hq; obtain ⟨⟨z0, z1, z2⟩, ⟨y0, y1, y2⟩⟩ := HS.out wq hq; go_simp; try with_reducible rfl)
                        simp only [Act.put, List.setIfInBounds_toArray, List.set_cons_zero, List.set_cons_succ]
                        refine wpAnyH_take (i := 24) (oi := ?p24bt0) (v := ?v24bt0) ?o24bt0 (by kernel_rfl) (by kernel_rfl) (by kernel_rfl) ?q24bt0 ?y24bt0 hHeld ?r24bt0
                        case o24bt0 => simp only [List.getElem?_toArray, List.getElem?_cons_succ, List.getElem?_cons_zero]; rfl
                        case q24bt0 => exact fun _ _ _ h => h
                        case y24bt0 => (refine Or.inl ⟨rfl, ?_⟩; intro wq hq; obtain ⟨⟨z0, z1, z2⟩, ⟨y0, y1, y2⟩⟩ := HS.out wq hq; go_simp; try with_reducible rfl)
                        simp only [Act.put, List.setIfInBounds_toArray, List.set_cons_zero, List.set_cons_succ]
                        refine wpAnyH_done (by kernel_rfl) ?_ _
                        have HBF := Hid_of (bel_up HBR.out hHeld (Nat.le_refl _))
                        clear hHeld
                        go_wp2
                        go_roundw
                        case rel => exact ⟨r + 1, by omega, by go_num, HBF.out⟩
                        case measure => simp [intOf]; omega
                      · have hss' : (xs == ys) = false := by simpa using hss
                        clear HCM
                        go_wp2_with fail
                        refine wp_region_held_drew (S := fun wq => Below (wr).heap.size (wr) wq) (by kernel_rfl) (Below.drew (Below.refl _ _)) (fun hHeld => ?_)
                        refine wpAnyH_take (i := 0) (oi := ?p0bt1) (v := ?v0bt1) ?o0bt1 (by kernel_rfl) (by kernel_rfl) (by kernel_rfl) ?q0bt1 ?y0bt1 hHeld ?r0bt1
                        case o0bt1 => simp only [List.getElem?_toArray, List.getElem?_cons_zero]; rfl
                        case q0bt1 => exact fun _ _ _ h => h
                        case y0bt1 => (refine Or.inl ⟨rfl, ?_⟩; intro wq hq; obtain ⟨⟨z0, z1, z2⟩, ⟨y0, y1, y2⟩⟩ := HS.out wq hq; go_simp; try with_reducible rfl)
                        simp only [Act.put, List.setIfInBounds_toArray, List.set_cons_zero, List.set_cons_succ]
                        refine wpAnyH_take (i := 1) (oi := ?p1bt1) (v := ?v1bt1) ?o1bt1 (by kernel_rfl) (by kernel_rfl) (by kernel_rfl) ?q1bt1 ?y1bt1 hHeld ?r1bt1
                        case o1bt1 => simp only [List.getElem?_toArray, List.getElem?_cons_succ, List.getElem?_cons_zero]; rfl
                        case q1bt1 => exact fun _ _ _ h => h
                        case y1bt1 => (refine Or.inl ⟨rfl, ?_⟩; intro wq hq; obtain ⟨⟨z0, z1, z2⟩, ⟨y0, y1, y2⟩⟩ := HS.out wq hq; go_simp; try with_reducible rfl)
                        simp only [Act.put, List.setIfInBounds_toArray, List.set_cons_zero, List.set_cons_succ]
                        refine wpAnyH_take (i := 2) (oi := ?p2bt1) (v := ?v2bt1) ?o2bt1 (by kernel_rfl) (by kernel_rfl) (by kernel_rfl) ?q2bt1 ?y2bt1 hHeld ?r2bt1
                        case o2bt1 => simp only [List.getElem?_toArray, List.getElem?_cons_succ, List.getElem?_cons_zero]; rfl
                        case q2bt1 => exact fun _ _ _ h => h
                        case y2bt1 => (refine Or.inl ⟨rfl, ?_⟩; intro wq hq; obtain ⟨⟨z0, z1, z2⟩, ⟨y0, y1, y2⟩⟩ := HS.out wq hq; go_simp; try with_reducible rfl)
                        simp only [Act.put, List.setIfInBounds_toArray, List.set_cons_zero, List.set_cons_succ]
                        refine wpAnyH_take (i := 3) (oi := ?p3bt1) (v := ?v3bt1) ?o3bt1 (by kernel_rfl) (by kernel_rfl) (by kernel_rfl) ?q3bt1 ?y3bt1 hHeld ?r3bt1
                        case o3bt1 => simp only [List.getElem?_toArray, List.getElem?_cons_succ, List.getElem?_cons_zero]; rfl
                        case q3bt1 => exact fun _ _ _ h => h
                        case y3bt1 => (refine Or.inl ⟨rfl, ?_⟩; intro wq hq; obtain ⟨⟨z0, z1, z2⟩, ⟨y0, y1, y2⟩⟩ := HS.out wq hq; go_simp; try with_reducible rfl)
                        simp only [Act.put, List.setIfInBounds_toArray, List.set_cons_zero, List.set_cons_succ]
                        refine wpAnyH_take (i := 4) (oi := ?p4bt1) (v := ?v4bt1) ?o4bt1 (by kernel_rfl) (by kernel_rfl) (by kernel_rfl) ?q4bt1 ?y4bt1 hHeld ?r4bt1
                        case o4bt1 => simp only [List.getElem?_toArray, List.getElem?_cons_succ, List.getElem?_cons_zero]; rfl
                        case q4bt1 => exact fun _ _ _ h => h
                        case y4bt1 => (refine Or.inl ⟨rfl, ?_⟩; intro wq hq; obtain ⟨⟨z0, z1, z2⟩, ⟨y0, y1, y2⟩⟩ := HS.out wq hq; go_simp; try with_reducible rfl)
                        simp only [Act.put, List.setIfInBounds_toArray, List.set_cons_zero, List.set_cons_succ]
                        refine wpAnyH_take (i := 5) (oi := ?p5bt1) (v := ?v5bt1) ?o5bt1 (by kernel_rfl) (by kernel_rfl) (by kernel_rfl) ?q5bt1 ?y5bt1 hHeld ?r5bt1
                        case o5bt1 => simp only [List.getElem?_toArray, List.getElem?_cons_succ, List.getElem?_cons_zero]; rfl
                        case q5bt1 => exact fun _ _ _ h => h
                        case y5bt1 => (refine Or.inl ⟨rfl, ?_⟩; intro wq hq; obtain ⟨⟨z0, z1, z2⟩, ⟨y0, y1, y2⟩⟩ := HS.out wq hq; go_simp; try with_reducible rfl)
                        simp only [Act.put, List.setIfInBounds_toArray, List.set_cons_zero, List.set_cons_succ]
                        refine wpAnyH_take (i := 6) (oi := ?p6bt1) (v := ?v6bt1) ?o6bt1 (by kernel_rfl) (by kernel_rfl) (by kernel_rfl) ?q6bt1 ?y6bt1 hHeld ?r6bt1
                        case o6bt1 => simp only [List.getElem?_toArray, List.getElem?_cons_succ, List.getElem?_cons_zero]; rfl
                        case q6bt1 => exact fun _ _ _ h => h
                        case y6bt1 => (refine Or.inl ⟨rfl, ?_⟩; intro wq hq; obtain ⟨⟨z0, z1, z2⟩, ⟨y0, y1, y2⟩⟩ := HS.out wq hq; go_simp; try with_reducible rfl)
                        simp only [Act.put, List.setIfInBounds_toArray, List.set_cons_zero, List.set_cons_succ]
                        refine wpAnyH_take (i := 7) (oi := ?p7bt1) (v := ?v7bt1) ?o7bt1 (by kernel_rfl) (by kernel_rfl) (by kernel_rfl) ?q7bt1 ?y7bt1 hHeld ?r7bt1
                        case o7bt1 => simp only [List.getElem?_toArray, List.getElem?_cons_succ, List.getElem?_cons_zero]; rfl
                        case q7bt1 => exact fun _ _ _ h => h
                        case y7bt1 => (refine Or.inl ⟨rfl, ?_⟩; intro wq hq; obtain ⟨⟨z0, z1, z2⟩, ⟨y0, y1, y2⟩⟩ := HS.out wq hq; go_simp; try with_reducible rfl)
                        simp only [Act.put, List.setIfInBounds_toArray, List.set_cons_zero, List.set_cons_succ]
                        refine wpAnyH_take (i := 8) (oi := ?p8bt1) (v := ?v8bt1) ?o8bt1 (by kernel_rfl) (by kernel_rfl) (by kernel_rfl) ?q8bt1 ?y8bt1 hHeld ?r8bt1
                        case o8bt1 => simp only [List.getElem?_toArray, List.getElem?_cons_succ, List.getElem?_cons_zero]; rfl
                        case q8bt1 => exact fun _ _ _ h => h
                        case y8bt1 => (refine Or.inl ⟨rfl, ?_⟩; intro wq hq; obtain ⟨⟨z0, z1, z2⟩, ⟨y0, y1, y2⟩⟩ := HS.out wq hq; go_simp; try with_reducible rfl)
                        simp only [Act.put, List.setIfInBounds_toArray, List.set_cons_zero, List.set_cons_succ]
                        refine wpAnyH_take (i := 9) (oi := ?p9bt1) (v := ?v9bt1) ?o9bt1 (by kernel_rfl) (by kernel_rfl) (by kernel_rfl) ?q9bt1 ?y9bt1 hHeld ?r9bt1
                        case o9bt1 => simp only [List.getElem?_toArray, List.getElem?_cons_succ, List.getElem?_cons_zero]; rfl
                        case q9bt1 => exact fun _ _ _ h => h
                        case y9bt1 => (refine Or.inl ⟨rfl, ?_⟩; intro wq hq; obtain ⟨⟨z0, z1, z2⟩, ⟨y0, y1, y2⟩⟩ := HS.out wq hq; go_simp; try with_reducible rfl)
                        simp only [Act.put, List.setIfInBounds_toArray, List.set_cons_zero, List.set_cons_succ]
                        refine wpAnyH_take (i := 10) (oi := ?p10bt1) (v := ?v10bt1) ?o10bt1 (by kernel_rfl) (by kernel_rfl) (by kernel_rfl) ?q10bt1 ?y10bt1 hHeld ?r10bt1
                        case o10bt1 => simp only [List.getElem?_toArray, List.getElem?_cons_succ, List.getElem?_cons_zero]; rfl
                        case q10bt1 => exact fun _ _ _ h => h
                        case y10bt1 => (refine Or.inl ⟨rfl, ?_⟩; intro wq hq; obtain ⟨⟨z0, z1, z2⟩, ⟨y0, y1, y2⟩⟩ := HS.out wq hq; go_simp; try with_reducible rfl)
                        simp only [Act.put, List.setIfInBounds_toArray, List.set_cons_zero, List.set_cons_succ]
                        refine wpAnyH_take (i := 11) (oi := ?p11bt1) (v := ?v11bt1) ?o11bt1 (by kernel_rfl) (by kernel_rfl) (by kernel_rfl) ?q11bt1 ?y11bt1 hHeld ?r11bt1
                        case o11bt1 => simp only [List.getElem?_toArray, List.getElem?_cons_succ, List.getElem?_cons_zero]; rfl
                        case q11bt1 => exact fun _ _ _ h => h
                        case y11bt1 => (refine Or.inl ⟨rfl, ?_⟩; intro wq hq; obtain ⟨⟨z0, z1, z2⟩, ⟨y0, y1, y2⟩⟩ := HS.out wq hq; go_simp; try with_reducible rfl)
                        simp only [Act.put, List.setIfInBounds_toArray, List.set_cons_zero, List.set_cons_succ]
                        refine wpAnyH_take (i := 12) (oi := ?p12bt1) (v := undef) ?o12bt1 (by kernel_rfl) (by kernel_rfl) (by kernel_rfl) ?q12bt1 ?y12bt1 hHeld ?r12bt1
                        case o12bt1 => simp only [List.getElem?_toArray, List.getElem?_cons_succ, List.getElem?_cons_zero]; rfl
                        case q12bt1 => exact fun _ _ _ h => h
                        case y12bt1 => exact Or.inr ⟨rfl, rfl⟩
                        simp only [Act.put, List.setIfInBounds_toArray, List.set_cons_zero, List.set_cons_succ]
                        refine wpAnyH_take (i := 13) (oi := ?p13bt1) (v := undef) ?o13bt1 (by kernel_rfl) (by kernel_rfl) (by kernel_rfl) ?q13bt1 ?y13bt1 hHeld ?r13bt1
                        case o13bt1 => simp only [List.getElem?_toArray, List.getElem?_cons_succ, List.getElem?_cons_zero]; rfl
                        case q13bt1 => exact fun _ _ _ h => h
                        case y13bt1 => exact Or.inr ⟨rfl, rfl⟩
                        simp only [Act.put, List.setIfInBounds_toArray, List.set_cons_zero, List.set_cons_succ]
                        refine wpAnyH_take (i := 14) (oi := ?p14bt1) (v := undef) ?o14bt1 (by kernel_rfl) (by kernel_rfl) (by kernel_rfl) ?q14bt1 ?y14bt1 hHeld ?r14bt1
                        case o14bt1 => simp only [List.getElem?_toArray, List.getElem?_cons_succ, List.getElem?_cons_zero]; rfl
                        case q14bt1 => exact fun _ _ _ h => h
                        case y14bt1 => exact Or.inr ⟨rfl, rfl⟩
                        simp only [Act.put, List.setIfInBounds_toArray, List.set_cons_zero, List.set_cons_succ]
                        refine wpAnyH_take (i := 15) (oi := ?p15bt1) (v := undef) ?o15bt1 (by kernel_rfl) (by kernel_rfl) (by kernel_rfl) ?q15bt1 ?y15bt1 hHeld ?r15bt1
                        case o15bt1 => simp only [List.getElem?_toArray, List.getElem?_cons_succ, List.getElem?_cons_zero]; rfl
                        case q15bt1 => exact fun _ _ _ h => h
                        case y15bt1 => exact Or.inr ⟨rfl, rfl⟩
                        simp only [Act.put, List.setIfInBounds_toArray, List.set_cons_zero, List.set_cons_succ]
                        refine wpAnyH_take (i := 16) (oi := ?p16bt1) (v := undef) ?o16bt1 (by kernel_rfl) (by kernel_rfl) (by kernel_rfl) ?q16bt1 ?y16bt1 hHeld ?r16bt1
                        case o16bt1 => simp only [List.getElem?_toArray, List.getElem?_cons_succ, List.getElem?_cons_zero]; rfl
                        case q16bt1 => exact fun _ _ _ h => h
                        case y16bt1 => exact Or.inr ⟨rfl, rfl⟩
                        simp only [Act.put, List.setIfInBounds_toArray, List.set_cons_zero, List.set_cons_succ]
                        refine wpAnyH_take (i := 17) (oi := ?p17bt1) (v := undef) ?o17bt1 (by kernel_rfl) (by kernel_rfl) (by kernel_rfl) ?q17bt1 ?y17bt1 hHeld ?r17bt1
                        case o17bt1 => simp only [List.getElem?_toArray, List.getElem?_cons_succ, List.getElem?_cons_zero]; rfl
                        case q17bt1 => exact fun _ _ _ h => h
                        case y17bt1 => exact Or.inr ⟨rfl, rfl⟩
                        simp only [Act.put, List.setIfInBounds_toArray, List.set_cons_zero, List.set_cons_succ]
                        refine wpAnyH_take (i := 18) (oi := ?p18bt1) (v := undef) ?o18bt1 (by kernel_rfl) (by kernel_rfl) (by kernel_rfl) ?q18bt1 ?y18bt1 hHeld ?r18bt1
                        case o18bt1 => simp only [List.getElem?_toArray, List.getElem?_cons_succ, List.getElem?_cons_zero]; rfl
                        case q18bt1 => exact fun _ _ _ h => h
                        case y18bt1 => exact Or.inr ⟨rfl, rfl⟩
                        simp only [Act.put, List.setIfInBounds_toArray, List.set_cons_zero, List.set_cons_succ]
                        refine wpAnyH_take (i := 19) (oi := ?p19bt1) (v := undef) ?o19bt1 (by kernel_rfl) (by kernel_rfl) (by kernel_rfl) ?q19bt1 ?y19bt1 hHeld ?r19bt1
                        case o19bt1 => simp only [List.getElem?_toArray, List.getElem?_cons_succ, List.getElem?_cons_zero]; rfl
                        case q19bt1 => exact fun _ _ _ h => h
                        case y19bt1 => exact Or.inr ⟨rfl, rfl⟩
                        simp only [Act.put, List.setIfInBounds_toArray, List.set_cons_zero, List.set_cons_succ]
                        refine wpAnyH_take (i := 20) (oi := ?p20bt1) (v := undef) ?o20bt1 (by kernel_rfl) (by kernel_rfl) (by kernel_rfl) ?q20bt1 ?y20bt1 hHeld ?r20bt1
                        case o20bt1 => simp only [List.getElem?_toArray, List.getElem?_cons_succ, List.getElem?_cons_zero]; rfl
                        case q20bt1 => exact fun _ _ _ h => h
                        case y20bt1 => exact Or.inr ⟨rfl, rfl⟩
                        simp only [Act.put, List.setIfInBounds_toArray, List.set_cons_zero, List.set_cons_succ]
                        refine wpAnyH_take (i := 21) (oi := ?p21bt1) (v := undef) ?o21bt1 (by kernel_rfl) (by kernel_rfl) (by kernel_rfl) ?q21bt1 ?y21bt1 hHeld ?r21bt1
                        case o21bt1 => simp only [List.getElem?_toArray, List.getElem?_cons_succ, List.getElem?_cons_zero]; rfl
                        case q21bt1 => exact fun _ _ _ h => h
                        case y21bt1 => exact Or.inr ⟨rfl, rfl⟩
                        simp only [Act.put, List.setIfInBounds_toArray, List.set_cons_zero, List.set_cons_succ]
                        refine wpAnyH_take (i := 22) (oi := ?p22bt1) (v := undef) ?o22bt1 (by kernel_rfl) (by kernel_rfl) (by kernel_rfl) ?q22bt1 ?y22bt1 hHeld ?r22bt1
                        case o22bt1 => simp only [List.getElem?_toArray, List.getElem?_cons_succ, List.getElem?_cons_zero]; rfl
                        case q22bt1 => exact fun _ _ _ h => h
                        case y22bt1 => exact Or.inr ⟨rfl, rfl⟩
                        simp only [Act.put, List.setIfInBounds_toArray, List.set_cons_zero, List.set_cons_succ]
                        refine wpAnyH_take (i := 23) (oi := ?p23bt1) (v := undef) ?o23bt1 (by kernel_rfl) (by kernel_rfl) (by kernel_rfl) ?q23bt1 ?y23bt1 hHeld ?r23bt1
                        case o23bt1 => simp only [List.getElem?_toArray, List.getElem?_cons_succ, List.getElem?_cons_zero]; rfl
                        case q23bt1 => exact fun _ _ _ h => h
                        case y23bt1 => exact Or.inr ⟨rfl, rfl⟩
                        simp only [Act.put, List.setIfInBounds_toArray, List.set_cons_zero, List.set_cons_succ]
                        refine wpAnyH_take (i := 24) (oi := ?p24bt1) (v := ?v24bt1) ?o24bt1 (by kernel_rfl) (by kernel_rfl) (by kernel_rfl) ?q24bt1 ?y24bt1 hHeld ?r24bt1
                        case o24bt1 => simp only [List.getElem?_toArray, List.getElem?_cons_succ, List.getElem?_cons_zero]; rfl
                        case q24bt1 => exact fun _ _ _ h => h
                        case y24bt1 => (refine Or.inl ⟨rfl, ?_⟩; intro wq hq; obtain ⟨⟨z0, z1, z2⟩, ⟨y0, y1, y2⟩⟩ := HS.out wq hq; go_simp; try with_reducible rfl)
                        simp only [Act.put, List.setIfInBounds_toArray, List.set_cons_zero, List.set_cons_succ]
                        refine wpAnyH_done (by kernel_rfl) ?_ _
                        have HBF := Hid_of (bel_up HBR.out hHeld (Nat.le_refl _))
                        clear hHeld
                        go_wp2
                        go_roundw
                        case rel => exact ⟨r + 1, by omega, by go_num, HBF.out⟩
                        case measure => simp [intOf]; omega
                    · obtain rfl : r = a2.l.length := by omega
                      have HBR := Hid_of hbr
                      clear hbr
                      go_wp2
                      go_roundw
                      case rel => exact ⟨q + 1, by omega, by go_num, HBR.out⟩
                      case measure => simp [intOf]; omega
                · obtain rfl : q = s.l.length := by omega
                  have HS8 := Hid_of (HS7.out.keep hbq)
                  have HPM : Hid (∀ W, Below wr.heap.size wr W → Calls Try.prog 17 #[.pointer (some ⟨b, 0, none⟩)] W fun e w' => e = .returned (bV a2.p) ∧ Below W.heap.size W w') := fun W hW => (HS8.out.keep hW).promised
                  have HW8 := Hid_of (HW7.out.up hbq).row
                  have HS : Hid (∀ w', Below wr.heap.size wr w' → (w'.cell? ⟨bw, 0, none⟩ = some (.int .i64 s.p.i) ∧ w'.cell? ⟨bw, 1, none⟩ = some (.int .i64 s.p.t))) := fun w' hb => (row2 (bel_row HW8.out hb)).1
                  have hcm := fun W => rcmp_any a2.p s.p W
                  have hcv : ¬ M.cmpE a2.p s.p < 0 := by have := HR5.out.p; omega
                  generalize M.cmpE a2.p s.p = cv at *
                  have dcv : decide (cv < 0) = false := decide_eq_false hcv
                  clear hbq hcv HX7 HN7 HW7 HS7
                  go_wp2_with fail
                  refine wp_region_held_drew (S := fun wq => Below (wr).heap.size (wr) wq) (by kernel_rfl) (Below.drew (Below.refl _ _)) (fun hHeld => ?_)
                  refine wpAnyH_take (i := 0) (oi := ?p0bt2) (v := ?v0bt2) ?o0bt2 (by kernel_rfl) (by kernel_rfl) (by kernel_rfl) ?q0bt2 ?y0bt2 hHeld ?r0bt2
                  case o0bt2 => simp only [List.getElem?_toArray, List.getElem?_cons_zero]; rfl
                  case q0bt2 => exact fun _ _ _ h => h
                  case y0bt2 => (refine Or.inl ⟨rfl, ?_⟩; intro wq hq; obtain ⟨y0, y1⟩ := HS.out wq hq; go_simp; try with_reducible rfl)
                  simp only [Act.put, List.setIfInBounds_toArray, List.set_cons_zero, List.set_cons_succ]
                  refine wpAnyH_take (i := 2) (oi := ?p2bt2) (v := ?v2bt2) ?o2bt2 (by kernel_rfl) (by kernel_rfl) (by kernel_rfl) ?q2bt2 ?y2bt2 hHeld ?r2bt2
                  case o2bt2 => simp only [List.getElem?_toArray, List.getElem?_cons_succ, List.getElem?_cons_zero]; rfl
                  case q2bt2 => exact fun _ _ _ h => h
                  case y2bt2 => (refine Or.inl ⟨rfl, ?_⟩; intro wq hq; obtain ⟨y0, y1⟩ := HS.out wq hq; go_simp; try with_reducible rfl)
                  simp only [Act.put, List.setIfInBounds_toArray, List.set_cons_zero, List.set_cons_succ]
                  refine wpAnyH_ready (rs := [1]) (by kernel_rfl) (by simp) ?_
                  refine AllReadyH.cons (o := ?p1bt2) ?o1bt2 ?s1bt2 AllReadyH.nil
                  case o1bt2 => simp only [List.getElem?_toArray, List.getElem?_cons_succ, List.getElem?_cons_zero]; rfl
                  intro K hK
                  go_simp
                  refine (HPM.out _ hHeld).mono ?_
                  rintro e v1 ⟨rfl, hb⟩
                  have B1 : Below wr.heap.size wr v1 := hHeld.trans (hb.mono hHeld.size)
                  clear hb
                  refine hK.out _ _ B1 (fun hHeld => ?_)
                  clear hK K
                  refine wpAnyH_ready (rs := [3]) (by kernel_rfl) (by simp) ?_
                  refine AllReadyH.cons (o := ?p3bt2) ?o3bt2 ?s3bt2 AllReadyH.nil
                  case o3bt2 => simp only [List.getElem?_toArray, List.getElem?_cons_succ, List.getElem?_cons_zero]; rfl
                  intro K hK
                  go_simp
                  refine (hcm _).mono ?_
                  rintro e v3 ⟨rfl, hb⟩
                  have B3 : Below wr.heap.size wr v3 := hHeld.trans (hb.mono hHeld.size)
                  clear hb
                  refine hK.out _ _ B3 (fun hHeld => ?_)
                  clear hK K
                  refine wpAnyH_take (i := 4) (oi := ?p4bt2) (v := ?v4bt2) ?o4bt2 (by kernel_rfl) (by kernel_rfl) (by kernel_rfl) ?q4bt2 ?y4bt2 hHeld ?r4bt2
                  case o4bt2 => simp only [List.getElem?_toArray, List.getElem?_cons_succ, List.getElem?_cons_zero]; rfl
                  case q4bt2 => exact fun _ _ _ h => h
                  case y4bt2 => (refine Or.inl ⟨rfl, ?_⟩; intro wq hq; obtain ⟨y0, y1⟩ := HS.out wq hq; go_simp; try with_reducible rfl)
                  simp only [Act.put, List.setIfInBounds_toArray, List.set_cons_zero, List.set_cons_succ]
                  refine wpAnyH_done (by kernel_rfl) ?_ _
                  have HSF := Hid_of (HS8.out.keep hHeld)
                  clear hHeld HPM HS
                  go_wp2
                  go_roundw
                  case rel => exact ⟨k + 1, F5, a2, by omega, by go_num, HSF.out⟩
                  case measure => simp [intOf]; omega
            | false =>
              clear HMY hab V5
              -- the votes behind it
              have hv := S5.votes 0
              rw [S5.ok.all] at hv
              have HS5 := Hid_of S5
              have HX5 := Hid_of X5
              have HW5 := Hid_of B5
              have HR5 := Hid_of R5
              clear S5 X5 B5 R5
              go_wp2_with fail
              refine hv.mono ?_
              rintro e w7 ⟨ad7, cp7, rfl, hxl7, hbk7, hb7⟩
              have HS7 := Hid_of (HS5.out.keep hb7)
              have HX7 := Hid_of (HX5.out.up hb7)
              have HW7 := Hid_of (HW5.out.up hb7)
              have HN7 := Hid_of hxl7.at'
              have hln : a2.l.length ≤ 1024 := HS7.out.ok.len
              have hlv : s.l.length ≤ 1024 := HOKA.out.len
              clear hv hb7 hxl7 hbk7 HS5 HX5 HW5
              go_wp2
              go_loopw [9] (fun i wr2 => ∃ q : Nat, q ≤ s.l.length ∧ i = .int .i64 q ∧ Below w7.heap.size w7 wr2) (fun i _ => s.l.length - (intOf i).toNat)
              case atStart => exact ⟨0, Nat.zero_le _, rfl, Below.refl _ _⟩
              case round =>
                obtain ⟨q, hq, rfl, hbq⟩ := hrel
                by_cases hlq : q < s.l.length
                · have HBQ := Hid_of hbq
                  clear hbq
                  go_wp2
                  go_loopw [10] (fun i wr3 => ∃ r : Nat, r ≤ a2.l.length ∧ i = .int .i64 r ∧ Below w7.heap.size w7 wr3) (fun i _ => a2.l.length - (intOf i).toNat)
                  case atStart => exact ⟨0, Nat.zero_le _, rfl, HBQ.out⟩
                  case round =>
                    obtain ⟨r, hr, rfl, hbr⟩ := hrel
                    by_cases hlr : r < a2.l.length
                    · obtain ⟨g1, o1, rfl, c0, c1, c2, c3⟩ := HN7.out.getV r hlr
                      obtain ⟨g2, o2, e7, d0, d1, d2, d3⟩ := HX7.out.xl.at'.getV q hlq
                      cases e7
                      have HBR := Hid_of hbr
                      have hri : (r : Int) < (a2.l.length : Int) := by omega
                      have hqi : (q : Int) < (s.l.length : Int) := by omega
                      have HCM : Hid (a2.l[r].s = s.l[q].s → 0 ≤ M.cmpE a2.l[r].b s.l[q].b) := fun e => HR5.out.l _ (List.getElem_mem _) _ (List.getElem_mem _) e
                      have hcm := fun W => rcmp_any a2.l[r].b s.l[q].b W
                      have HS : Hid (∀ w', Below wr.heap.size wr w' → (w'.cell? ⟨g1, o1 + r * 4, none⟩ = some (.int .i64 a2.l[r].s) ∧ w'.cell? ⟨g1, o1 + r * 4 + 1, none⟩ = some (.int .i64 a2.l[r].b.i) ∧ w'.cell? ⟨g1, o1 + r * 4 + 2, none⟩ = some (.int .i64 a2.l[r].b.t)) ∧ (w'.cell? ⟨g2, o2 + q * 4, none⟩ = some (.int .i64 s.l[q].s) ∧ w'.cell? ⟨g2, o2 + q * 4 + 1, none⟩ = some (.int .i64 s.l[q].b.i) ∧ w'.cell? ⟨g2, o2 + q * 4 + 2, none⟩ = some (.int .i64 s.l[q].b.t))) := by
                        intro w' hb
                        have hb7 : Below w7.heap.size w7 w' := bel_up HBR.out hb (Nat.le_refl _)
                        have k1 : ∀ o v, w7.cell? ⟨g1, o, none⟩ = some v → w'.cell? ⟨g1, o, none⟩ = some v := fun o v h => (World.cell?_of_block (w := w7) (a := ⟨g1, o, none⟩) (hb7.block g1 (World.block_lt_of_cell? w7 _ h))).trans h
                        have k2 : ∀ o v, w7.cell? ⟨g2, o, none⟩ = some v → w'.cell? ⟨g2, o, none⟩ = some v := fun o v h => (World.cell?_of_block (w := w7) (a := ⟨g2, o, none⟩) (hb7.block g2 (World.block_lt_of_cell? w7 _ h))).trans h
                        exact ⟨⟨k1 _ _ c0, k1 _ _ c1, k1 _ _ c2⟩, ⟨k2 _ _ d0, k2 _ _ d1, k2 _ _ d2⟩⟩
                      clear c0 c1 c2 c3 d0 d1 d2 d3 hbr
                      generalize a2.l[r].s = xs at *
                      generalize a2.l[r].b = xb at *
                      generalize s.l[q].s = ys at *
                      generalize s.l[q].b = yb at *
                      by_cases hss : xs = ys
                      · have hcv : ¬ M.cmpE xb yb < 0 := by have := HCM.out hss; omega
                        generalize M.cmpE xb yb = cv at *
                        have dcv : decide (cv < 0) = false := decide_eq_false hcv
                        subst hss
                        clear HCM hcv
                        go_wp2_with fail
                        refine wp_region_held_drew (S := fun wq => Below (wr).heap.size (wr) wq) (by kernel_rfl) (Below.drew (Below.refl _ _)) (fun hHeld => ?_)
                        refine wpAnyH_take (i := 0) (oi := ?p0bf0) (v := ?v0bf0) ?o0bf0 (by kernel_rfl) (by kernel_rfl) (by kernel_rfl) ?q0bf0 ?y0bf0 hHeld ?r0bf0
                        case o0bf0 => simp only [List.getElem?_toArray, List.getElem?_cons_zero]; rfl
                        case q0bf0 => exact fun _ _ _ h => h
                        case y0bf0 => (refine Or.inl ⟨rfl, ?_⟩; intro wq hq; obtain ⟨⟨z0, z1, z2⟩, ⟨y0, y1, y2⟩⟩ := HS.out wq hq; go_simp; try with_reducible rfl)
                        simp only [Act.put, List.setIfInBounds_toArray, List.set_cons_zero, List.set_cons_succ]
                        refine wpAnyH_take (i := 1) (oi := ?p1bf0) (v := ?v1bf0) ?o1bf0 (by kernel_rfl) (by kernel_rfl) (by kernel_rfl) ?q1bf0 ?y1bf0 hHeld ?r1bf0
                        case o1bf0 => simp only [List.getElem?_toArray, List.getElem?_cons_succ, List.getElem?_cons_zero]; rfl
                        case q1bf0 => exact fun _ _ _ h => h
                        case y1bf0 => (refine Or.inl ⟨rfl, ?_⟩; intro wq hq; obtain ⟨⟨z0, z1, z2⟩, ⟨y0, y1, y2⟩⟩ := HS.out wq hq; go_simp; try with_reducible rfl)
                        simp only [Act.put, List.setIfInBounds_toArray, List.set_cons_zero, List.set_cons_succ]
                        refine wpAnyH_take (i := 2) (oi := ?p2bf0) (v := ?v2bf0) ?o2bf0 (by kernel_rfl) (by kernel_rfl) (by kernel_rfl) ?q2bf0 ?y2bf0 hHeld ?r2bf0
                        case o2bf0 => simp only [List.getElem?_toArray, List.getElem?_cons_succ, List.getElem?_cons_zero]; rfl
                        case q2bf0 => exact fun _ _ _ h => h
                        case y2bf0 => (refine Or.inl ⟨rfl, ?_⟩; intro wq hq; obtain ⟨⟨z0, z1, z2⟩, ⟨y0, y1, y2⟩⟩ := HS.out wq hq; go_simp; try with_reducible rfl)
                        simp only [Act.put, List.setIfInBounds_toArray, List.set_cons_zero, List.set_cons_succ]
                        refine wpAnyH_take (i := 3) (oi := ?p3bf0) (v := ?v3bf0) ?o3bf0 (by kernel_rfl) (by kernel_rfl) (by kernel_rfl) ?q3bf0 ?y3bf0 hHeld ?r3bf0
                        case o3bf0 => simp only [List.getElem?_toArray, List.getElem?_cons_succ, List.getElem?_cons_zero]; rfl
                        case q3bf0 => exact fun _ _ _ h => h
                        case y3bf0 => (refine Or.inl ⟨rfl, ?_⟩; intro wq hq; obtain ⟨⟨z0, z1, z2⟩, ⟨y0, y1, y2⟩⟩ := HS.out wq hq; go_simp; try with_reducible rfl)
                        simp only [Act.put, List.setIfInBounds_toArray, List.set_cons_zero, List.set_cons_succ]
                        refine wpAnyH_take (i := 4) (oi := ?p4bf0) (v := ?v4bf0) ?o4bf0 (by kernel_rfl) (by kernel_rfl) (by kernel_rfl) ?q4bf0 ?y4bf0 hHeld ?r4bf0
                        case o4bf0 => simp only [List.getElem?_toArray, List.getElem?_cons_succ, List.getElem?_cons_zero]; rfl
                        case q4bf0 => exact fun _ _ _ h => h
                        case y4bf0 => (refine Or.inl ⟨rfl, ?_⟩; intro wq hq; obtain ⟨⟨z0, z1, z2⟩, ⟨y0, y1, y2⟩⟩ := HS.out wq hq; go_simp; try with_reducible rfl)
                        simp only [Act.put, List.setIfInBounds_toArray, List.set_cons_zero, List.set_cons_succ]
                        refine wpAnyH_take (i := 5) (oi := ?p5bf0) (v := ?v5bf0) ?o5bf0 (by kernel_rfl) (by kernel_rfl) (by kernel_rfl) ?q5bf0 ?y5bf0 hHeld ?r5bf0
                        case o5bf0 => simp only [List.getElem?_toArray, List.getElem?_cons_succ, List.getElem?_cons_zero]; rfl
                        case q5bf0 => exact fun _ _ _ h => h
                        case y5bf0 => (refine Or.inl ⟨rfl, ?_⟩; intro wq hq; obtain ⟨⟨z0, z1, z2⟩, ⟨y0, y1, y2⟩⟩ := HS.out wq hq; go_simp; try with_reducible rfl)
                        simp only [Act.put, List.setIfInBounds_toArray, List.set_cons_zero, List.set_cons_succ]
                        refine wpAnyH_take (i := 6) (oi := ?p6bf0) (v := ?v6bf0) ?o6bf0 (by kernel_rfl) (by kernel_rfl) (by kernel_rfl) ?q6bf0 ?y6bf0 hHeld ?r6bf0
                        case o6bf0 => simp only [List.getElem?_toArray, List.getElem?_cons_succ, List.getElem?_cons_zero]; rfl
                        case q6bf0 => exact fun _ _ _ h => h
                        case y6bf0 => (refine Or.inl ⟨rfl, ?_⟩; intro wq hq; obtain ⟨⟨z0, z1, z2⟩, ⟨y0, y1, y2⟩⟩ := HS.out wq hq; go_simp; try with_reducible rfl)
                        simp only [Act.put, List.setIfInBounds_toArray, List.set_cons_zero, List.set_cons_succ]
                        refine wpAnyH_take (i := 7) (oi := ?p7bf0) (v := ?v7bf0) ?o7bf0 (by kernel_rfl) (by kernel_rfl) (by kernel_rfl) ?q7bf0 ?y7bf0 hHeld ?r7bf0
                        case o7bf0 => simp only [List.getElem?_toArray, List.getElem?_cons_succ, List.getElem?_cons_zero]; rfl
                        case q7bf0 => exact fun _ _ _ h => h
                        case y7bf0 => (refine Or.inl ⟨rfl, ?_⟩; intro wq hq; obtain ⟨⟨z0, z1, z2⟩, ⟨y0, y1, y2⟩⟩ := HS.out wq hq; go_simp; try with_reducible rfl)
                        simp only [Act.put, List.setIfInBounds_toArray, List.set_cons_zero, List.set_cons_succ]
                        refine wpAnyH_take (i := 8) (oi := ?p8bf0) (v := ?v8bf0) ?o8bf0 (by kernel_rfl) (by kernel_rfl) (by kernel_rfl) ?q8bf0 ?y8bf0 hHeld ?r8bf0
                        case o8bf0 => simp only [List.getElem?_toArray, List.getElem?_cons_succ, List.getElem?_cons_zero]; rfl
                        case q8bf0 => exact fun _ _ _ h => h
                        case y8bf0 => (refine Or.inl ⟨rfl, ?_⟩; intro wq hq; obtain ⟨⟨z0, z1, z2⟩, ⟨y0, y1, y2⟩⟩ := HS.out wq hq; go_simp; try with_reducible rfl)
                        simp only [Act.put, List.setIfInBounds_toArray, List.set_cons_zero, List.set_cons_succ]
                        refine wpAnyH_take (i := 9) (oi := ?p9bf0) (v := ?v9bf0) ?o9bf0 (by kernel_rfl) (by kernel_rfl) (by kernel_rfl) ?q9bf0 ?y9bf0 hHeld ?r9bf0
                        case o9bf0 => simp only [List.getElem?_toArray, List.getElem?_cons_succ, List.getElem?_cons_zero]; rfl
                        case q9bf0 => exact fun _ _ _ h => h
                        case y9bf0 => (refine Or.inl ⟨rfl, ?_⟩; intro wq hq; obtain ⟨⟨z0, z1, z2⟩, ⟨y0, y1, y2⟩⟩ := HS.out wq hq; go_simp; try with_reducible rfl)
                        simp only [Act.put, List.setIfInBounds_toArray, List.set_cons_zero, List.set_cons_succ]
                        refine wpAnyH_take (i := 10) (oi := ?p10bf0) (v := ?v10bf0) ?o10bf0 (by kernel_rfl) (by kernel_rfl) (by kernel_rfl) ?q10bf0 ?y10bf0 hHeld ?r10bf0
                        case o10bf0 => simp only [List.getElem?_toArray, List.getElem?_cons_succ, List.getElem?_cons_zero]; rfl
                        case q10bf0 => exact fun _ _ _ h => h
                        case y10bf0 => (refine Or.inl ⟨rfl, ?_⟩; intro wq hq; obtain ⟨⟨z0, z1, z2⟩, ⟨y0, y1, y2⟩⟩ := HS.out wq hq; go_simp; try with_reducible rfl)
                        simp only [Act.put, List.setIfInBounds_toArray, List.set_cons_zero, List.set_cons_succ]
                        refine wpAnyH_take (i := 11) (oi := ?p11bf0) (v := ?v11bf0) ?o11bf0 (by kernel_rfl) (by kernel_rfl) (by kernel_rfl) ?q11bf0 ?y11bf0 hHeld ?r11bf0
                        case o11bf0 => simp only [List.getElem?_toArray, List.getElem?_cons_succ, List.getElem?_cons_zero]; rfl
                        case q11bf0 => exact fun _ _ _ h => h
                        case y11bf0 => (refine Or.inl ⟨rfl, ?_⟩; intro wq hq; obtain ⟨⟨z0, z1, z2⟩, ⟨y0, y1, y2⟩⟩ := HS.out wq hq; go_simp; try with_reducible rfl)
                        simp only [Act.put, List.setIfInBounds_toArray, List.set_cons_zero, List.set_cons_succ]
                        refine wpAnyH_take (i := 12) (oi := ?p12bf0) (v := ?v12bf0) ?o12bf0 (by kernel_rfl) (by kernel_rfl) (by kernel_rfl) ?q12bf0 ?y12bf0 hHeld ?r12bf0
                        case o12bf0 => simp only [List.getElem?_toArray, List.getElem?_cons_succ, List.getElem?_cons_zero]; rfl
                        case q12bf0 => exact fun _ _ _ h => h
                        case y12bf0 => (refine Or.inl ⟨rfl, ?_⟩; intro wq hq; obtain ⟨⟨z0, z1, z2⟩, ⟨y0, y1, y2⟩⟩ := HS.out wq hq; go_simp; try with_reducible rfl)
                        simp only [Act.put, List.setIfInBounds_toArray, List.set_cons_zero, List.set_cons_succ]
                        refine wpAnyH_take (i := 13) (oi := ?p13bf0) (v := ?v13bf0) ?o13bf0 (by kernel_rfl) (by kernel_rfl) (by kernel_rfl) ?q13bf0 ?y13bf0 hHeld ?r13bf0
                        case o13bf0 => simp only [List.getElem?_toArray, List.getElem?_cons_succ, List.getElem?_cons_zero]; rfl
                        case q13bf0 => exact fun _ _ _ h => h
                        case y13bf0 => (refine Or.inl ⟨rfl, ?_⟩; intro wq hq; obtain ⟨⟨z0, z1, z2⟩, ⟨y0, y1, y2⟩⟩ := HS.out wq hq; go_simp; try with_reducible rfl)
                        simp only [Act.put, List.setIfInBounds_toArray, List.set_cons_zero, List.set_cons_succ]
                        refine wpAnyH_take (i := 14) (oi := ?p14bf0) (v := ?v14bf0) ?o14bf0 (by kernel_rfl) (by kernel_rfl) (by kernel_rfl) ?q14bf0 ?y14bf0 hHeld ?r14bf0
                        case o14bf0 => simp only [List.getElem?_toArray, List.getElem?_cons_succ, List.getElem?_cons_zero]; rfl
                        case q14bf0 => exact fun _ _ _ h => h
                        case y14bf0 => (refine Or.inl ⟨rfl, ?_⟩; intro wq hq; obtain ⟨⟨z0, z1, z2⟩, ⟨y0, y1, y2⟩⟩ := HS.out wq hq; go_simp; try with_reducible rfl)
                        simp only [Act.put, List.setIfInBounds_toArray, List.set_cons_zero, List.set_cons_succ]
                        refine wpAnyH_take (i := 15) (oi := ?p15bf0) (v := ?v15bf0) ?o15bf0 (by kernel_rfl) (by kernel_rfl) (by kernel_rfl) ?q15bf0 ?y15bf0 hHeld ?r15bf0
                        case o15bf0 => simp only [List.getElem?_toArray, List.getElem?_cons_succ, List.getElem?_cons_zero]; rfl
                        case q15bf0 => exact fun _ _ _ h => h
                        case y15bf0 => (refine Or.inl ⟨rfl, ?_⟩; intro wq hq; obtain ⟨⟨z0, z1, z2⟩, ⟨y0, y1, y2⟩⟩ := HS.out wq hq; go_simp; try with_reducible rfl)
                        simp only [Act.put, List.setIfInBounds_toArray, List.set_cons_zero, List.set_cons_succ]
                        refine wpAnyH_take (i := 16) (oi := ?p16bf0) (v := ?v16bf0) ?o16bf0 (by kernel_rfl) (by kernel_rfl) (by kernel_rfl) ?q16bf0 ?y16bf0 hHeld ?r16bf0
                        case o16bf0 => simp only [List.getElem?_toArray, List.getElem?_cons_succ, List.getElem?_cons_zero]; rfl
                        case q16bf0 => exact fun _ _ _ h => h
                        case y16bf0 => (refine Or.inl ⟨rfl, ?_⟩; intro wq hq; obtain ⟨⟨z0, z1, z2⟩, ⟨y0, y1, y2⟩⟩ := HS.out wq hq; go_simp; try with_reducible rfl)
                        simp only [Act.put, List.setIfInBounds_toArray, List.set_cons_zero, List.set_cons_succ]
                        refine wpAnyH_take (i := 17) (oi := ?p17bf0) (v := ?v17bf0) ?o17bf0 (by kernel_rfl) (by kernel_rfl) (by kernel_rfl) ?q17bf0 ?y17bf0 hHeld ?r17bf0
                        case o17bf0 => simp only [List.getElem?_toArray, List.getElem?_cons_succ, List.getElem?_cons_zero]; rfl
                        case q17bf0 => exact fun _ _ _ h => h
                        case y17bf0 => (refine Or.inl ⟨rfl, ?_⟩; intro wq hq; obtain ⟨⟨z0, z1, z2⟩, ⟨y0, y1, y2⟩⟩ := HS.out wq hq; go_simp; try with_reducible rfl)
                        simp only [Act.put, List.setIfInBounds_toArray, List.set_cons_zero, List.set_cons_succ]
                        refine wpAnyH_take (i := 18) (oi := ?p18bf0) (v := ?v18bf0) ?o18bf0 (by kernel_rfl) (by kernel_rfl) (by kernel_rfl) ?q18bf0 ?y18bf0 hHeld ?r18bf0
                        case o18bf0 => simp only [List.getElem?_toArray, List.getElem?_cons_succ, List.getElem?_cons_zero]; rfl
                        case q18bf0 => exact fun _ _ _ h => h
                        case y18bf0 => (refine Or.inl ⟨rfl, ?_⟩; intro wq hq; obtain ⟨⟨z0, z1, z2⟩, ⟨y0, y1, y2⟩⟩ := HS.out wq hq; go_simp; try with_reducible rfl)
                        simp only [Act.put, List.setIfInBounds_toArray, List.set_cons_zero, List.set_cons_succ]
                        refine wpAnyH_take (i := 19) (oi := ?p19bf0) (v := ?v19bf0) ?o19bf0 (by kernel_rfl) (by kernel_rfl) (by kernel_rfl) ?q19bf0 ?y19bf0 hHeld ?r19bf0
                        case o19bf0 => simp only [List.getElem?_toArray, List.getElem?_cons_succ, List.getElem?_cons_zero]; rfl
                        case q19bf0 => exact fun _ _ _ h => h
                        case y19bf0 => (refine Or.inl ⟨rfl, ?_⟩; intro wq hq; obtain ⟨⟨z0, z1, z2⟩, ⟨y0, y1, y2⟩⟩ := HS.out wq hq; go_simp; try with_reducible rfl)
                        simp only [Act.put, List.setIfInBounds_toArray, List.set_cons_zero, List.set_cons_succ]
                        refine wpAnyH_take (i := 20) (oi := ?p20bf0) (v := ?v20bf0) ?o20bf0 (by kernel_rfl) (by kernel_rfl) (by kernel_rfl) ?q20bf0 ?y20bf0 hHeld ?r20bf0
                        case o20bf0 => simp only [List.getElem?_toArray, List.getElem?_cons_succ, List.getElem?_cons_zero]; rfl
                        case q20bf0 => exact fun _ _ _ h => h
                        case y20bf0 => (refine Or.inl ⟨rfl, ?_⟩; intro wq hq; obtain ⟨⟨z0, z1, z2⟩, ⟨y0, y1, y2⟩⟩ := HS.out wq hq; go_simp; try with_reducible rfl)
                        simp only [Act.put, List.setIfInBounds_toArray, List.set_cons_zero, List.set_cons_succ]
                        refine wpAnyH_take (i := 21) (oi := ?p21bf0) (v := ?v21bf0) ?o21bf0 (by kernel_rfl) (by kernel_rfl) (by kernel_rfl) ?q21bf0 ?y21bf0 hHeld ?r21bf0
                        case o21bf0 => simp only [List.getElem?_toArray, List.getElem?_cons_succ, List.getElem?_cons_zero]; rfl
                        case q21bf0 => exact fun _ _ _ h => h
                        case y21bf0 => (refine Or.inl ⟨rfl, ?_⟩; intro wq hq; obtain ⟨⟨z0, z1, z2⟩, ⟨y0, y1, y2⟩⟩ := HS.out wq hq; go_simp; try with_reducible rfl)
                        simp only [Act.put, List.setIfInBounds_toArray, List.set_cons_zero, List.set_cons_succ]
                        refine wpAnyH_ready (rs := [22]) (by kernel_rfl) (by simp) ?_
                        refine AllReadyH.cons (o := ?p22bf0) ?o22bf0 ?s22bf0 AllReadyH.nil
                        case o22bf0 => simp only [List.getElem?_toArray, List.getElem?_cons_succ, List.getElem?_cons_zero]; rfl
                        intro K hK
                        go_simp
                        refine (hcm _).mono ?_
                        rintro e v22 ⟨rfl, hb⟩
                        have B22 : Below wr.heap.size wr v22 := hHeld.trans (hb.mono hHeld.size)
                        clear hb
                        refine hK.out _ _ B22 (fun hHeld => ?_)
                        clear hK K
                        refine wpAnyH_take (i := 23) (oi := ?p23bf0) (v := ?v23bf0) ?o23bf0 (by kernel_rfl) (by kernel_rfl) (by kernel_rfl) ?q23bf0 ?y23bf0 hHeld ?r23bf0
                        case o23bf0 => simp only [List.getElem?_toArray, List.getElem?_cons_succ, List.getElem?_cons_zero]; rfl
                        case q23bf0 => exact fun _ _ _ h => h
                        case y23bf0 => (refine Or.inl ⟨rfl, ?_⟩; intro wq hq; obtain ⟨⟨z0, z1, z2⟩, ⟨y0, y1, y2⟩⟩ := HS.out wq hq; go_simp; try with_reducible rfl)
                        simp only [Act.put, List.setIfInBounds_toArray, List.set_cons_zero, List.set_cons_succ]
                        refine wpAnyH_take (i := 24) (oi := ?p24bf0) (v := ?v24bf0) ?o24bf0 (by kernel_rfl) (by kernel_rfl) (by kernel_rfl) ?q24bf0 ?y24bf0 hHeld ?r24bf0
                        case o24bf0 => simp only [List.getElem?_toArray, List.getElem?_cons_succ, List.getElem?_cons_zero]; rfl
                        case q24bf0 => exact fun _ _ _ h => h
                        case y24bf0 => (refine Or.inl ⟨rfl, ?_⟩; intro wq hq; obtain ⟨⟨z0, z1, z2⟩, ⟨y0, y1, y2⟩⟩ := HS.out wq hq; go_simp; try with_reducible rfl)
                        simp only [Act.put, List.setIfInBounds_toArray, List.set_cons_zero, List.set_cons_succ]
                        refine wpAnyH_done (by kernel_rfl) ?_ _
                        have HBF := Hid_of (bel_up HBR.out hHeld (Nat.le_refl _))
                        clear hHeld
                        go_wp2
                        go_roundw
                        case rel => exact ⟨r + 1, by omega, by go_num, HBF.out⟩
                        case measure => simp [intOf]; omega
                      · have hss' : (xs == ys) = false := by simpa using hss
                        clear HCM
                        go_wp2_with fail
                        refine wp_region_held_drew (S := fun wq => Below (wr).heap.size (wr) wq) (by kernel_rfl) (Below.drew (Below.refl _ _)) (fun hHeld => ?_)
                        refine wpAnyH_take (i := 0) (oi := ?p0bf1) (v := ?v0bf1) ?o0bf1 (by kernel_rfl) (by kernel_rfl) (by kernel_rfl) ?q0bf1 ?y0bf1 hHeld ?r0bf1
                        case o0bf1 => simp only [List.getElem?_toArray, List.getElem?_cons_zero]; rfl
                        case q0bf1 => exact fun _ _ _ h => h
                        case y0bf1 => (refine Or.inl ⟨rfl, ?_⟩; intro wq hq; obtain ⟨⟨z0, z1, z2⟩, ⟨y0, y1, y2⟩⟩ := HS.out wq hq; go_simp; try with_reducible rfl)
                        simp only [Act.put, List.setIfInBounds_toArray, List.set_cons_zero, List.set_cons_succ]
                        refine wpAnyH_take (i := 1) (oi := ?p1bf1) (v := ?v1bf1) ?o1bf1 (by kernel_rfl) (by kernel_rfl) (by kernel_rfl) ?q1bf1 ?y1bf1 hHeld ?r1bf1
                        case o1bf1 => simp only [List.getElem?_toArray, List.getElem?_cons_succ, List.getElem?_cons_zero]; rfl
                        case q1bf1 => exact fun _ _ _ h => h
                        case y1bf1 => (refine Or.inl ⟨rfl, ?_⟩; intro wq hq; obtain ⟨⟨z0, z1, z2⟩, ⟨y0, y1, y2⟩⟩ := HS.out wq hq; go_simp; try with_reducible rfl)
                        simp only [Act.put, List.setIfInBounds_toArray, List.set_cons_zero, List.set_cons_succ]
                        refine wpAnyH_take (i := 2) (oi := ?p2bf1) (v := ?v2bf1) ?o2bf1 (by kernel_rfl) (by kernel_rfl) (by kernel_rfl) ?q2bf1 ?y2bf1 hHeld ?r2bf1
                        case o2bf1 => simp only [List.getElem?_toArray, List.getElem?_cons_succ, List.getElem?_cons_zero]; rfl
                        case q2bf1 => exact fun _ _ _ h => h
                        case y2bf1 => (refine Or.inl ⟨rfl, ?_⟩; intro wq hq; obtain ⟨⟨z0, z1, z2⟩, ⟨y0, y1, y2⟩⟩ := HS.out wq hq; go_simp; try with_reducible rfl)
                        simp only [Act.put, List.setIfInBounds_toArray, List.set_cons_zero, List.set_cons_succ]
                        refine wpAnyH_take (i := 3) (oi := ?p3bf1) (v := ?v3bf1) ?o3bf1 (by kernel_rfl) (by kernel_rfl) (by kernel_rfl) ?q3bf1 ?y3bf1 hHeld ?r3bf1
                        case o3bf1 => simp only [List.getElem?_toArray, List.getElem?_cons_succ, List.getElem?_cons_zero]; rfl
                        case q3bf1 => exact fun _ _ _ h => h
                        case y3bf1 => (refine Or.inl ⟨rfl, ?_⟩; intro wq hq; obtain ⟨⟨z0, z1, z2⟩, ⟨y0, y1, y2⟩⟩ := HS.out wq hq; go_simp; try with_reducible rfl)
                        simp only [Act.put, List.setIfInBounds_toArray, List.set_cons_zero, List.set_cons_succ]
                        refine wpAnyH_take (i := 4) (oi := ?p4bf1) (v := ?v4bf1) ?o4bf1 (by kernel_rfl) (by kernel_rfl) (by kernel_rfl) ?q4bf1 ?y4bf1 hHeld ?r4bf1
                        case o4bf1 => simp only [List.getElem?_toArray, List.getElem?_cons_succ, List.getElem?_cons_zero]; rfl
                        case q4bf1 => exact fun _ _ _ h => h
                        case y4bf1 => (refine Or.inl ⟨rfl, ?_⟩; intro wq hq; obtain ⟨⟨z0, z1, z2⟩, ⟨y0, y1, y2⟩⟩ := HS.out wq hq; go_simp; try with_reducible rfl)
                        simp only [Act.put, List.setIfInBounds_toArray, List.set_cons_zero, List.set_cons_succ]
                        refine wpAnyH_take (i := 5) (oi := ?p5bf1) (v := ?v5bf1) ?o5bf1 (by kernel_rfl) (by kernel_rfl) (by kernel_rfl) ?q5bf1 ?y5bf1 hHeld ?r5bf1
                        case o5bf1 => simp only [List.getElem?_toArray, List.getElem?_cons_succ, List.getElem?_cons_zero]; rfl
                        case q5bf1 => exact fun _ _ _ h => h
                        case y5bf1 => (refine Or.inl ⟨rfl, ?_⟩; intro wq hq; obtain ⟨⟨z0, z1, z2⟩, ⟨y0, y1, y2⟩⟩ := HS.out wq hq; go_simp; try with_reducible rfl)
                        simp only [Act.put, List.setIfInBounds_toArray, List.set_cons_zero, List.set_cons_succ]
                        refine wpAnyH_take (i := 6) (oi := ?p6bf1) (v := ?v6bf1) ?o6bf1 (by kernel_rfl) (by kernel_rfl) (by kernel_rfl) ?q6bf1 ?y6bf1 hHeld ?r6bf1
                        case o6bf1 => simp only [List.getElem?_toArray, List.getElem?_cons_succ, List.getElem?_cons_zero]; rfl
                        case q6bf1 => exact fun _ _ _ h => h
                        case y6bf1 => (refine Or.inl ⟨rfl, ?_⟩; intro wq hq; obtain ⟨⟨z0, z1, z2⟩, ⟨y0, y1, y2⟩⟩ := HS.out wq hq; go_simp; try with_reducible rfl)
                        simp only [Act.put, List.setIfInBounds_toArray, List.set_cons_zero, List.set_cons_succ]
                        refine wpAnyH_take (i := 7) (oi := ?p7bf1) (v := ?v7bf1) ?o7bf1 (by kernel_rfl) (by kernel_rfl) (by kernel_rfl) ?q7bf1 ?y7bf1 hHeld ?r7bf1
                        case o7bf1 => simp only [List.getElem?_toArray, List.getElem?_cons_succ, List.getElem?_cons_zero]; rfl
                        case q7bf1 => exact fun _ _ _ h => h
                        case y7bf1 => (refine Or.inl ⟨rfl, ?_⟩; intro wq hq; obtain ⟨⟨z0, z1, z2⟩, ⟨y0, y1, y2⟩⟩ := HS.out wq hq; go_simp; try with_reducible rfl)
                        simp only [Act.put, List.setIfInBounds_toArray, List.set_cons_zero, List.set_cons_succ]
                        refine wpAnyH_take (i := 8) (oi := ?p8bf1) (v := ?v8bf1) ?o8bf1 (by kernel_rfl) (by kernel_rfl) (by kernel_rfl) ?q8bf1 ?y8bf1 hHeld ?r8bf1
                        case o8bf1 => simp only [List.getElem?_toArray, List.getElem?_cons_succ, List.getElem?_cons_zero]; rfl
                        case q8bf1 => exact fun _ _ _ h => h
                        case y8bf1 => (refine Or.inl ⟨rfl, ?_⟩; intro wq hq; obtain ⟨⟨z0, z1, z2⟩, ⟨y0, y1, y2⟩⟩ := HS.out wq hq; go_simp; try with_reducible rfl)
                        simp only [Act.put, List.setIfInBounds_toArray, List.set_cons_zero, List.set_cons_succ]
                        refine wpAnyH_take (i := 9) (oi := ?p9bf1) (v := ?v9bf1) ?o9bf1 (by kernel_rfl) (by kernel_rfl) (by kernel_rfl) ?q9bf1 ?y9bf1 hHeld ?r9bf1
                        case o9bf1 => simp only [List.getElem?_toArray, List.getElem?_cons_succ, List.getElem?_cons_zero]; rfl
                        case q9bf1 => exact fun _ _ _ h => h
                        case y9bf1 => (refine Or.inl ⟨rfl, ?_⟩; intro wq hq; obtain ⟨⟨z0, z1, z2⟩, ⟨y0, y1, y2⟩⟩ := HS.out wq hq; go_simp; try with_reducible rfl)
                        simp only [Act.put, List.setIfInBounds_toArray, List.set_cons_zero, List.set_cons_succ]
                        refine wpAnyH_take (i := 10) (oi := ?p10bf1) (v := ?v10bf1) ?o10bf1 (by kernel_rfl) (by kernel_rfl) (by kernel_rfl) ?q10bf1 ?y10bf1 hHeld ?r10bf1
                        case o10bf1 => simp only [List.getElem?_toArray, List.getElem?_cons_succ, List.getElem?_cons_zero]; rfl
                        case q10bf1 => exact fun _ _ _ h => h
                        case y10bf1 => (refine Or.inl ⟨rfl, ?_⟩; intro wq hq; obtain ⟨⟨z0, z1, z2⟩, ⟨y0, y1, y2⟩⟩ := HS.out wq hq; go_simp; try with_reducible rfl)
                        simp only [Act.put, List.setIfInBounds_toArray, List.set_cons_zero, List.set_cons_succ]
                        refine wpAnyH_take (i := 11) (oi := ?p11bf1) (v := ?v11bf1) ?o11bf1 (by kernel_rfl) (by kernel_rfl) (by kernel_rfl) ?q11bf1 ?y11bf1 hHeld ?r11bf1
                        case o11bf1 => simp only [List.getElem?_toArray, List.getElem?_cons_succ, List.getElem?_cons_zero]; rfl
                        case q11bf1 => exact fun _ _ _ h => h
                        case y11bf1 => (refine Or.inl ⟨rfl, ?_⟩; intro wq hq; obtain ⟨⟨z0, z1, z2⟩, ⟨y0, y1, y2⟩⟩ := HS.out wq hq; go_simp; try with_reducible rfl)
                        simp only [Act.put, List.setIfInBounds_toArray, List.set_cons_zero, List.set_cons_succ]
                        refine wpAnyH_take (i := 12) (oi := ?p12bf1) (v := undef) ?o12bf1 (by kernel_rfl) (by kernel_rfl) (by kernel_rfl) ?q12bf1 ?y12bf1 hHeld ?r12bf1
                        case o12bf1 => simp only [List.getElem?_toArray, List.getElem?_cons_succ, List.getElem?_cons_zero]; rfl
                        case q12bf1 => exact fun _ _ _ h => h
                        case y12bf1 => exact Or.inr ⟨rfl, rfl⟩
                        simp only [Act.put, List.setIfInBounds_toArray, List.set_cons_zero, List.set_cons_succ]
                        refine wpAnyH_take (i := 13) (oi := ?p13bf1) (v := undef) ?o13bf1 (by kernel_rfl) (by kernel_rfl) (by kernel_rfl) ?q13bf1 ?y13bf1 hHeld ?r13bf1
                        case o13bf1 => simp only [List.getElem?_toArray, List.getElem?_cons_succ, List.getElem?_cons_zero]; rfl
                        case q13bf1 => exact fun _ _ _ h => h
                        case y13bf1 => exact Or.inr ⟨rfl, rfl⟩
                        simp only [Act.put, List.setIfInBounds_toArray, List.set_cons_zero, List.set_cons_succ]
                        refine wpAnyH_take (i := 14) (oi := ?p14bf1) (v := undef) ?o14bf1 (by kernel_rfl) (by kernel_rfl) (by kernel_rfl) ?q14bf1 ?y14bf1 hHeld ?r14bf1
                        case o14bf1 => simp only [List.getElem?_toArray, List.getElem?_cons_succ, List.getElem?_cons_zero]; rfl
                        case q14bf1 => exact fun _ _ _ h => h
                        case y14bf1 => exact Or.inr ⟨rfl, rfl⟩
                        simp only [Act.put, List.setIfInBounds_toArray, List.set_cons_zero, List.set_cons_succ]
                        refine wpAnyH_take (i := 15) (oi := ?p15bf1) (v := undef) ?o15bf1 (by kernel_rfl) (by kernel_rfl) (by kernel_rfl) ?q15bf1 ?y15bf1 hHeld ?r15bf1
                        case o15bf1 => simp only [List.getElem?_toArray, List.getElem?_cons_succ, List.getElem?_cons_zero]; rfl
                        case q15bf1 => exact fun _ _ _ h => h
                        case y15bf1 => exact Or.inr ⟨rfl, rfl⟩
                        simp only [Act.put, List.setIfInBounds_toArray, List.set_cons_zero, List.set_cons_succ]
                        refine wpAnyH_take (i := 16) (oi := ?p16bf1) (v := undef) ?o16bf1 (by kernel_rfl) (by kernel_rfl) (by kernel_rfl) ?q16bf1 ?y16bf1 hHeld ?r16bf1
                        case o16bf1 => simp only [List.getElem?_toArray, List.getElem?_cons_succ, List.getElem?_cons_zero]; rfl
                        case q16bf1 => exact fun _ _ _ h => h
                        case y16bf1 => exact Or.inr ⟨rfl, rfl⟩
                        simp only [Act.put, List.setIfInBounds_toArray, List.set_cons_zero, List.set_cons_succ]
                        refine wpAnyH_take (i := 17) (oi := ?p17bf1) (v := undef) ?o17bf1 (by kernel_rfl) (by kernel_rfl) (by kernel_rfl) ?q17bf1 ?y17bf1 hHeld ?r17bf1
                        case o17bf1 => simp only [List.getElem?_toArray, List.getElem?_cons_succ, List.getElem?_cons_zero]; rfl
                        case q17bf1 => exact fun _ _ _ h => h
                        case y17bf1 => exact Or.inr ⟨rfl, rfl⟩
                        simp only [Act.put, List.setIfInBounds_toArray, List.set_cons_zero, List.set_cons_succ]
                        refine wpAnyH_take (i := 18) (oi := ?p18bf1) (v := undef) ?o18bf1 (by kernel_rfl) (by kernel_rfl) (by kernel_rfl) ?q18bf1 ?y18bf1 hHeld ?r18bf1
                        case o18bf1 => simp only [List.getElem?_toArray, List.getElem?_cons_succ, List.getElem?_cons_zero]; rfl
                        case q18bf1 => exact fun _ _ _ h => h
                        case y18bf1 => exact Or.inr ⟨rfl, rfl⟩
                        simp only [Act.put, List.setIfInBounds_toArray, List.set_cons_zero, List.set_cons_succ]
                        refine wpAnyH_take (i := 19) (oi := ?p19bf1) (v := undef) ?o19bf1 (by kernel_rfl) (by kernel_rfl) (by kernel_rfl) ?q19bf1 ?y19bf1 hHeld ?r19bf1
                        case o19bf1 => simp only [List.getElem?_toArray, List.getElem?_cons_succ, List.getElem?_cons_zero]; rfl
                        case q19bf1 => exact fun _ _ _ h => h
                        case y19bf1 => exact Or.inr ⟨rfl, rfl⟩
                        simp only [Act.put, List.setIfInBounds_toArray, List.set_cons_zero, List.set_cons_succ]
                        refine wpAnyH_take (i := 20) (oi := ?p20bf1) (v := undef) ?o20bf1 (by kernel_rfl) (by kernel_rfl) (by kernel_rfl) ?q20bf1 ?y20bf1 hHeld ?r20bf1
                        case o20bf1 => simp only [List.getElem?_toArray, List.getElem?_cons_succ, List.getElem?_cons_zero]; rfl
                        case q20bf1 => exact fun _ _ _ h => h
                        case y20bf1 => exact Or.inr ⟨rfl, rfl⟩
                        simp only [Act.put, List.setIfInBounds_toArray, List.set_cons_zero, List.set_cons_succ]
                        refine wpAnyH_take (i := 21) (oi := ?p21bf1) (v := undef) ?o21bf1 (by kernel_rfl) (by kernel_rfl) (by kernel_rfl) ?q21bf1 ?y21bf1 hHeld ?r21bf1
                        case o21bf1 => simp only [List.getElem?_toArray, List.getElem?_cons_succ, List.getElem?_cons_zero]; rfl
                        case q21bf1 => exact fun _ _ _ h => h
                        case y21bf1 => exact Or.inr ⟨rfl, rfl⟩
                        simp only [Act.put, List.setIfInBounds_toArray, List.set_cons_zero, List.set_cons_succ]
                        refine wpAnyH_take (i := 22) (oi := ?p22bf1) (v := undef) ?o22bf1 (by kernel_rfl) (by kernel_rfl) (by kernel_rfl) ?q22bf1 ?y22bf1 hHeld ?r22bf1
                        case o22bf1 => simp only [List.getElem?_toArray, List.getElem?_cons_succ, List.getElem?_cons_zero]; rfl
                        case q22bf1 => exact fun _ _ _ h => h
                        case y22bf1 => exact Or.inr ⟨rfl, rfl⟩
                        simp only [Act.put, List.setIfInBounds_toArray, List.set_cons_zero, List.set_cons_succ]
                        refine wpAnyH_take (i := 23) (oi := ?p23bf1) (v := undef) ?o23bf1 (by kernel_rfl) (by kernel_rfl) (by kernel_rfl) ?q23bf1 ?y23bf1 hHeld ?r23bf1
                        case o23bf1 => simp only [List.getElem?_toArray, List.getElem?_cons_succ, List.getElem?_cons_zero]; rfl
                        case q23bf1 => exact fun _ _ _ h => h
                        case y23bf1 => exact Or.inr ⟨rfl, rfl⟩
                        simp only [Act.put, List.setIfInBounds_toArray, List.set_cons_zero, List.set_cons_succ]
                        refine wpAnyH_take (i := 24) (oi := ?p24bf1) (v := ?v24bf1) ?o24bf1 (by kernel_rfl) (by kernel_rfl) (by kernel_rfl) ?q24bf1 ?y24bf1 hHeld ?r24bf1
                        case o24bf1 => simp only [List.getElem?_toArray, List.getElem?_cons_succ, List.getElem?_cons_zero]; rfl
                        case q24bf1 => exact fun _ _ _ h => h
                        case y24bf1 => (refine Or.inl ⟨rfl, ?_⟩; intro wq hq; obtain ⟨⟨z0, z1, z2⟩, ⟨y0, y1, y2⟩⟩ := HS.out wq hq; go_simp; try with_reducible rfl)
                        simp only [Act.put, List.setIfInBounds_toArray, List.set_cons_zero, List.set_cons_succ]
                        refine wpAnyH_done (by kernel_rfl) ?_ _
                        have HBF := Hid_of (bel_up HBR.out hHeld (Nat.le_refl _))
                        clear hHeld
                        go_wp2
                        go_roundw
                        case rel => exact ⟨r + 1, by omega, by go_num, HBF.out⟩
                        case measure => simp [intOf]; omega
                    · obtain rfl : r = a2.l.length := by omega
                      have HBR := Hid_of hbr
                      clear hbr
                      go_wp2
                      go_roundw
                      case rel => exact ⟨q + 1, by omega, by go_num, HBR.out⟩
                      case measure => simp [intOf]; omega
                · obtain rfl : q = s.l.length := by omega
                  have HS8 := Hid_of (HS7.out.keep hbq)
                  have HPM : Hid (∀ W, Below wr.heap.size wr W → Calls Try.prog 17 #[.pointer (some ⟨b, 0, none⟩)] W fun e w' => e = .returned (bV a2.p) ∧ Below W.heap.size W w') := fun W hW => (HS8.out.keep hW).promised
                  have HW8 := Hid_of (HW7.out.up hbq).row
                  have HS : Hid (∀ w', Below wr.heap.size wr w' → (w'.cell? ⟨bw, 0, none⟩ = some (.int .i64 s.p.i) ∧ w'.cell? ⟨bw, 1, none⟩ = some (.int .i64 s.p.t))) := fun w' hb => (row2 (bel_row HW8.out hb)).1
                  have hcm := fun W => rcmp_any a2.p s.p W
                  have hcv : ¬ M.cmpE a2.p s.p < 0 := by have := HR5.out.p; omega
                  generalize M.cmpE a2.p s.p = cv at *
                  have dcv : decide (cv < 0) = false := decide_eq_false hcv
                  clear hbq hcv HX7 HN7 HW7 HS7
                  go_wp2_with fail
                  refine wp_region_held_drew (S := fun wq => Below (wr).heap.size (wr) wq) (by kernel_rfl) (Below.drew (Below.refl _ _)) (fun hHeld => ?_)
                  refine wpAnyH_take (i := 0) (oi := ?p0bf2) (v := ?v0bf2) ?o0bf2 (by kernel_rfl) (by kernel_rfl) (by kernel_rfl) ?q0bf2 ?y0bf2 hHeld ?r0bf2
                  case o0bf2 => simp only [List.getElem?_toArray, List.getElem?_cons_zero]; rfl
                  case q0bf2 => exact fun _ _ _ h => h
                  case y0bf2 => (refine Or.inl ⟨rfl, ?_⟩; intro wq hq; obtain ⟨y0, y1⟩ := HS.out wq hq; go_simp; try with_reducible rfl)
                  simp only [Act.put, List.setIfInBounds_toArray, List.set_cons_zero, List.set_cons_succ]
                  refine wpAnyH_take (i := 2) (oi := ?p2bf2) (v := ?v2bf2) ?o2bf2 (by kernel_rfl) (by kernel_rfl) (by kernel_rfl) ?q2bf2 ?y2bf2 hHeld ?r2bf2
                  case o2bf2 => simp only [List.getElem?_toArray, List.getElem?_cons_succ, List.getElem?_cons_zero]; rfl
                  case q2bf2 => exact fun _ _ _ h => h
                  case y2bf2 => (refine Or.inl ⟨rfl, ?_⟩; intro wq hq; obtain ⟨y0, y1⟩ := HS.out wq hq; go_simp; try with_reducible rfl)
                  simp only [Act.put, List.setIfInBounds_toArray, List.set_cons_zero, List.set_cons_succ]
                  refine wpAnyH_ready (rs := [1]) (by kernel_rfl) (by simp) ?_
                  refine AllReadyH.cons (o := ?p1bf2) ?o1bf2 ?s1bf2 AllReadyH.nil
                  case o1bf2 => simp only [List.getElem?_toArray, List.getElem?_cons_succ, List.getElem?_cons_zero]; rfl
                  intro K hK
                  go_simp
                  refine (HPM.out _ hHeld).mono ?_
                  rintro e v1 ⟨rfl, hb⟩
                  have B1 : Below wr.heap.size wr v1 := hHeld.trans (hb.mono hHeld.size)
                  clear hb
                  refine hK.out _ _ B1 (fun hHeld => ?_)
                  clear hK K
                  refine wpAnyH_ready (rs := [3]) (by kernel_rfl) (by simp) ?_
                  refine AllReadyH.cons (o := ?p3bf2) ?o3bf2 ?s3bf2 AllReadyH.nil
                  case o3bf2 => simp only [List.getElem?_toArray, List.getElem?_cons_succ, List.getElem?_cons_zero]; rfl
                  intro K hK
                  go_simp
                  refine (hcm _).mono ?_
                  rintro e v3 ⟨rfl, hb⟩
                  have B3 : Below wr.heap.size wr v3 := hHeld.trans (hb.mono hHeld.size)
                  clear hb
                  refine hK.out _ _ B3 (fun hHeld => ?_)
                  clear hK K
                  refine wpAnyH_take (i := 4) (oi := ?p4bf2) (v := ?v4bf2) ?o4bf2 (by kernel_rfl) (by kernel_rfl) (by kernel_rfl) ?q4bf2 ?y4bf2 hHeld ?r4bf2
                  case o4bf2 => simp only [List.getElem?_toArray, List.getElem?_cons_succ, List.getElem?_cons_zero]; rfl
                  case q4bf2 => exact fun _ _ _ h => h
                  case y4bf2 => (refine Or.inl ⟨rfl, ?_⟩; intro wq hq; obtain ⟨y0, y1⟩ := HS.out wq hq; go_simp; try with_reducible rfl)
                  simp only [Act.put, List.setIfInBounds_toArray, List.set_cons_zero, List.set_cons_succ]
                  refine wpAnyH_done (by kernel_rfl) ?_ _
                  have HSF := Hid_of (HS8.out.keep hHeld)
                  clear hHeld HPM HS
                  go_wp2
                  go_roundw
                  case rel => exact ⟨k + 1, F5, a2, by omega, by go_num, HSF.out⟩
                  case measure => simp [intOf]; omega
          · by_cases hk2 : dk = 2
            · subst hk2
              clear HV4
              have hc := HS4.out.trim x.s
              go_wp2_with fail
              refine hc.mono ?_
              rintro e w5 ⟨F5, rfl, S5, Q5⟩
              have X5 := HX4.out.step Q5
              have B5 := HW4.out.step Q5
              have R5 := M.ris_tr HOKA.out x.s
              obtain ⟨a2, ha2⟩ : ∃ a2, M.trs s x.s = a2 := ⟨_, rfl⟩
              rw [ha2] at S5 R5
              clear hc Q5 ha2 HS4 HX4 HW4
              -- the votes behind it
              have hv := S5.votes 0
              rw [S5.ok.all] at hv
              have HS5 := Hid_of S5
              have HX5 := Hid_of X5
              have HW5 := Hid_of B5
              have HR5 := Hid_of R5
              clear S5 X5 B5 R5
              go_wp2_with fail
              refine hv.mono ?_
              rintro e w7 ⟨ad7, cp7, rfl, hxl7, hbk7, hb7⟩
              have HS7 := Hid_of (HS5.out.keep hb7)
              have HX7 := Hid_of (HX5.out.up hb7)
              have HW7 := Hid_of (HW5.out.up hb7)
              have HN7 := Hid_of hxl7.at'
              have hln : a2.l.length ≤ 1024 := HS7.out.ok.len
              have hlv : s.l.length ≤ 1024 := HOKA.out.len
              clear hv hb7 hxl7 hbk7 HS5 HX5 HW5
              go_wp2
              go_loopw [9] (fun i wr2 => ∃ q : Nat, q ≤ s.l.length ∧ i = .int .i64 q ∧ Below w7.heap.size w7 wr2) (fun i _ => s.l.length - (intOf i).toNat)
              case atStart => exact ⟨0, Nat.zero_le _, rfl, Below.refl _ _⟩
              case round =>
                obtain ⟨q, hq, rfl, hbq⟩ := hrel
                by_cases hlq : q < s.l.length
                · have HBQ := Hid_of hbq
                  clear hbq
                  go_wp2
                  go_loopw [10] (fun i wr3 => ∃ r : Nat, r ≤ a2.l.length ∧ i = .int .i64 r ∧ Below w7.heap.size w7 wr3) (fun i _ => a2.l.length - (intOf i).toNat)
                  case atStart => exact ⟨0, Nat.zero_le _, rfl, HBQ.out⟩
                  case round =>
                    obtain ⟨r, hr, rfl, hbr⟩ := hrel
                    by_cases hlr : r < a2.l.length
                    · obtain ⟨g1, o1, rfl, c0, c1, c2, c3⟩ := HN7.out.getV r hlr
                      obtain ⟨g2, o2, e7, d0, d1, d2, d3⟩ := HX7.out.xl.at'.getV q hlq
                      cases e7
                      have HBR := Hid_of hbr
                      have hri : (r : Int) < (a2.l.length : Int) := by omega
                      have hqi : (q : Int) < (s.l.length : Int) := by omega
                      have HCM : Hid (a2.l[r].s = s.l[q].s → 0 ≤ M.cmpE a2.l[r].b s.l[q].b) := fun e => HR5.out.l _ (List.getElem_mem _) _ (List.getElem_mem _) e
                      have hcm := fun W => rcmp_any a2.l[r].b s.l[q].b W
                      have HS : Hid (∀ w', Below wr.heap.size wr w' → (w'.cell? ⟨g1, o1 + r * 4, none⟩ = some (.int .i64 a2.l[r].s) ∧ w'.cell? ⟨g1, o1 + r * 4 + 1, none⟩ = some (.int .i64 a2.l[r].b.i) ∧ w'.cell? ⟨g1, o1 + r * 4 + 2, none⟩ = some (.int .i64 a2.l[r].b.t)) ∧ (w'.cell? ⟨g2, o2 + q * 4, none⟩ = some (.int .i64 s.l[q].s) ∧ w'.cell? ⟨g2, o2 + q * 4 + 1, none⟩ = some (.int .i64 s.l[q].b.i) ∧ w'.cell? ⟨g2, o2 + q * 4 + 2, none⟩ = some (.int .i64 s.l[q].b.t))) := by
                        intro w' hb
                        have hb7 : Below w7.heap.size w7 w' := bel_up HBR.out hb (Nat.le_refl _)
                        have k1 : ∀ o v, w7.cell? ⟨g1, o, none⟩ = some v → w'.cell? ⟨g1, o, none⟩ = some v := fun o v h => (World.cell?_of_block (w := w7) (a := ⟨g1, o, none⟩) (hb7.block g1 (World.block_lt_of_cell? w7 _ h))).trans h
                        have k2 : ∀ o v, w7.cell? ⟨g2, o, none⟩ = some v → w'.cell? ⟨g2, o, none⟩ = some v := fun o v h => (World.cell?_of_block (w := w7) (a := ⟨g2, o, none⟩) (hb7.block g2 (World.block_lt_of_cell? w7 _ h))).trans h
                        exact ⟨⟨k1 _ _ c0, k1 _ _ c1, k1 _ _ c2⟩, ⟨k2 _ _ d0, k2 _ _ d1, k2 _ _ d2⟩⟩
                      clear c0 c1 c2 c3 d0 d1 d2 d3 hbr
                      generalize a2.l[r].s = xs at *
                      generalize a2.l[r].b = xb at *
                      generalize s.l[q].s = ys at *
                      generalize s.l[q].b = yb at *
                      by_cases hss : xs = ys
                      · have hcv : ¬ M.cmpE xb yb < 0 := by have := HCM.out hss; omega
                        generalize M.cmpE xb yb = cv at *
                        have dcv : decide (cv < 0) = false := decide_eq_false hcv
                        subst hss
                        clear HCM hcv
                        go_wp2_with fail
                        refine wp_region_held_drew (S := fun wq => Below (wr).heap.size (wr) wq) (by kernel_rfl) (Below.drew (Below.refl _ _)) (fun hHeld => ?_)
                        refine wpAnyH_take (i := 0) (oi := ?p0c0) (v := ?v0c0) ?o0c0 (by kernel_rfl) (by kernel_rfl) (by kernel_rfl) ?q0c0 ?y0c0 hHeld ?r0c0
                        case o0c0 => simp only [List.getElem?_toArray, List.getElem?_cons_zero]; rfl
                        case q0c0 => exact fun _ _ _ h => h
                        case y0c0 => (refine Or.inl ⟨rfl, ?_⟩; intro wq hq; obtain ⟨⟨z0, z1, z2⟩, ⟨y0, y1, y2⟩⟩ := HS.out wq hq; go_simp; try with_reducible rfl)
                        simp only [Act.put, List.setIfInBounds_toArray, List.set_cons_zero, List.set_cons_succ]
                        refine wpAnyH_take (i := 1) (oi := ?p1c0) (v := ?v1c0) ?o1c0 (by kernel_rfl) (by kernel_rfl) (by kernel_rfl) ?q1c0 ?y1c0 hHeld ?r1c0
                        case o1c0 => simp only [List.getElem?_toArray, List.getElem?_cons_succ, List.getElem?_cons_zero]; rfl
                        case q1c0 => exact fun _ _ _ h => h
                        case y1c0 => (refine Or.inl ⟨rfl, ?_⟩; intro wq hq; obtain ⟨⟨z0, z1, z2⟩, ⟨y0, y1, y2⟩⟩ := HS.out wq hq; go_simp; try with_reducible rfl)
                        simp only [Act.put, List.setIfInBounds_toArray, List.set_cons_zero, List.set_cons_succ]
                        refine wpAnyH_take (i := 2) (oi := ?p2c0) (v := ?v2c0) ?o2c0 (by kernel_rfl) (by kernel_rfl) (by kernel_rfl) ?q2c0 ?y2c0 hHeld ?r2c0
                        case o2c0 => simp only [List.getElem?_toArray, List.getElem?_cons_succ, List.getElem?_cons_zero]; rfl
                        case q2c0 => exact fun _ _ _ h => h
                        case y2c0 => (refine Or.inl ⟨rfl, ?_⟩; intro wq hq; obtain ⟨⟨z0, z1, z2⟩, ⟨y0, y1, y2⟩⟩ := HS.out wq hq; go_simp; try with_reducible rfl)
                        simp only [Act.put, List.setIfInBounds_toArray, List.set_cons_zero, List.set_cons_succ]
                        refine wpAnyH_take (i := 3) (oi := ?p3c0) (v := ?v3c0) ?o3c0 (by kernel_rfl) (by kernel_rfl) (by kernel_rfl) ?q3c0 ?y3c0 hHeld ?r3c0
                        case o3c0 => simp only [List.getElem?_toArray, List.getElem?_cons_succ, List.getElem?_cons_zero]; rfl
                        case q3c0 => exact fun _ _ _ h => h
                        case y3c0 => (refine Or.inl ⟨rfl, ?_⟩; intro wq hq; obtain ⟨⟨z0, z1, z2⟩, ⟨y0, y1, y2⟩⟩ := HS.out wq hq; go_simp; try with_reducible rfl)
                        simp only [Act.put, List.setIfInBounds_toArray, List.set_cons_zero, List.set_cons_succ]
                        refine wpAnyH_take (i := 4) (oi := ?p4c0) (v := ?v4c0) ?o4c0 (by kernel_rfl) (by kernel_rfl) (by kernel_rfl) ?q4c0 ?y4c0 hHeld ?r4c0
                        case o4c0 => simp only [List.getElem?_toArray, List.getElem?_cons_succ, List.getElem?_cons_zero]; rfl
                        case q4c0 => exact fun _ _ _ h => h
                        case y4c0 => (refine Or.inl ⟨rfl, ?_⟩; intro wq hq; obtain ⟨⟨z0, z1, z2⟩, ⟨y0, y1, y2⟩⟩ := HS.out wq hq; go_simp; try with_reducible rfl)
                        simp only [Act.put, List.setIfInBounds_toArray, List.set_cons_zero, List.set_cons_succ]
                        refine wpAnyH_take (i := 5) (oi := ?p5c0) (v := ?v5c0) ?o5c0 (by kernel_rfl) (by kernel_rfl) (by kernel_rfl) ?q5c0 ?y5c0 hHeld ?r5c0
                        case o5c0 => simp only [List.getElem?_toArray, List.getElem?_cons_succ, List.getElem?_cons_zero]; rfl
                        case q5c0 => exact fun _ _ _ h => h
                        case y5c0 => (refine Or.inl ⟨rfl, ?_⟩; intro wq hq; obtain ⟨⟨z0, z1, z2⟩, ⟨y0, y1, y2⟩⟩ := HS.out wq hq; go_simp; try with_reducible rfl)
                        simp only [Act.put, List.setIfInBounds_toArray, List.set_cons_zero, List.set_cons_succ]
                        refine wpAnyH_take (i := 6) (oi := ?p6c0) (v := ?v6c0) ?o6c0 (by kernel_rfl) (by kernel_rfl) (by kernel_rfl) ?q6c0 ?y6c0 hHeld ?r6c0
                        case o6c0 => simp only [List.getElem?_toArray, List.getElem?_cons_succ, List.getElem?_cons_zero]; rfl
                        case q6c0 => exact fun _ _ _ h => h
                        case y6c0 => (refine Or.inl ⟨rfl, ?_⟩; intro wq hq; obtain ⟨⟨z0, z1, z2⟩, ⟨y0, y1, y2⟩⟩ := HS.out wq hq; go_simp; try with_reducible rfl)
                        simp only [Act.put, List.setIfInBounds_toArray, List.set_cons_zero, List.set_cons_succ]
                        refine wpAnyH_take (i := 7) (oi := ?p7c0) (v := ?v7c0) ?o7c0 (by kernel_rfl) (by kernel_rfl) (by kernel_rfl) ?q7c0 ?y7c0 hHeld ?r7c0
                        case o7c0 => simp only [List.getElem?_toArray, List.getElem?_cons_succ, List.getElem?_cons_zero]; rfl
                        case q7c0 => exact fun _ _ _ h => h
                        case y7c0 => (refine Or.inl ⟨rfl, ?_⟩; intro wq hq; obtain ⟨⟨z0, z1, z2⟩, ⟨y0, y1, y2⟩⟩ := HS.out wq hq; go_simp; try with_reducible rfl)
                        simp only [Act.put, List.setIfInBounds_toArray, List.set_cons_zero, List.set_cons_succ]
                        refine wpAnyH_take (i := 8) (oi := ?p8c0) (v := ?v8c0) ?o8c0 (by kernel_rfl) (by kernel_rfl) (by kernel_rfl) ?q8c0 ?y8c0 hHeld ?r8c0
                        case o8c0 => simp only [List.getElem?_toArray, List.getElem?_cons_succ, List.getElem?_cons_zero]; rfl
                        case q8c0 => exact fun _ _ _ h => h
                        case y8c0 => (refine Or.inl ⟨rfl, ?_⟩; intro wq hq; obtain ⟨⟨z0, z1, z2⟩, ⟨y0, y1, y2⟩⟩ := HS.out wq hq; go_simp; try with_reducible rfl)
                        simp only [Act.put, List.setIfInBounds_toArray, List.set_cons_zero, List.set_cons_succ]
                        refine wpAnyH_take (i := 9) (oi := ?p9c0) (v := ?v9c0) ?o9c0 (by kernel_rfl) (by kernel_rfl) (by kernel_rfl) ?q9c0 ?y9c0 hHeld ?r9c0
                        case o9c0 => simp only [List.getElem?_toArray, List.getElem?_cons_succ, List.getElem?_cons_zero]; rfl
                        case q9c0 => exact fun _ _ _ h => h
                        case y9c0 => (refine Or.inl ⟨rfl, ?_⟩; intro wq hq; obtain ⟨⟨z0, z1, z2⟩, ⟨y0, y1, y2⟩⟩ := HS.out wq hq; go_simp; try with_reducible rfl)
                        simp only [Act.put, List.setIfInBounds_toArray, List.set_cons_zero, List.set_cons_succ]
                        refine wpAnyH_take (i := 10) (oi := ?p10c0) (v := ?v10c0) ?o10c0 (by kernel_rfl) (by kernel_rfl) (by kernel_rfl) ?q10c0 ?y10c0 hHeld ?r10c0
                        case o10c0 => simp only [List.getElem?_toArray, List.getElem?_cons_succ, List.getElem?_cons_zero]; rfl
                        case q10c0 => exact fun _ _ _ h => h
                        case y10c0 => (refine Or.inl ⟨rfl, ?_⟩; intro wq hq; obtain ⟨⟨z0, z1, z2⟩, ⟨y0, y1, y2⟩⟩ := HS.out wq hq; go_simp; try with_reducible rfl)
                        simp only [Act.put, List.setIfInBounds_toArray, List.set_cons_zero, List.set_cons_succ]
                        refine wpAnyH_take (i := 11) (oi := ?p11c0) (v := ?v11c0) ?o11c0 (by kernel_rfl) (by kernel_rfl) (by kernel_rfl) ?q11c0 ?y11c0 hHeld ?r11c0
                        case o11c0 => simp only [List.getElem?_toArray, List.getElem?_cons_succ, List.getElem?_cons_zero]; rfl
                        case q11c0 => exact fun _ _ _ h => h
                        case y11c0 => (refine Or.inl ⟨rfl, ?_⟩; intro wq hq; obtain ⟨⟨z0, z1, z2⟩, ⟨y0, y1, y2⟩⟩ := HS.out wq hq; go_simp; try with_reducible rfl)
                        simp only [Act.put, List.setIfInBounds_toArray, List.set_cons_zero, List.set_cons_succ]
                        refine wpAnyH_take (i := 12) (oi := ?p12c0) (v := ?v12c0) ?o12c0 (by kernel_rfl) (by kernel_rfl) (by kernel_rfl) ?q12c0 ?y12c0 hHeld ?r12c0
                        case o12c0 => simp only [List.getElem?_toArray, List.getElem?_cons_succ, List.getElem?_cons_zero]; rfl
                        case q12c0 => exact fun _ _ _ h => h
                        case y12c0 => (refine Or.inl ⟨rfl, ?_⟩; intro wq hq; obtain ⟨⟨z0, z1, z2⟩, ⟨y0, y1, y2⟩⟩ := HS.out wq hq; go_simp; try with_reducible rfl)
                        simp only [Act.put, List.setIfInBounds_toArray, List.set_cons_zero, List.set_cons_succ]
                        refine wpAnyH_take (i := 13) (oi := ?p13c0) (v := ?v13c0) ?o13c0 (by kernel_rfl) (by kernel_rfl) (by kernel_rfl) ?q13c0 ?y13c0 hHeld ?r13c0
                        case o13c0 => simp only [List.getElem?_toArray, List.getElem?_cons_succ, List.getElem?_cons_zero]; rfl
                        case q13c0 => exact fun _ _ _ h => h
                        case y13c0 => (refine Or.inl ⟨rfl, ?_⟩; intro wq hq; obtain ⟨⟨z0, z1, z2⟩, ⟨y0, y1, y2⟩⟩ := HS.out wq hq; go_simp; try with_reducible rfl)
                        simp only [Act.put, List.setIfInBounds_toArray, List.set_cons_zero, List.set_cons_succ]
                        refine wpAnyH_take (i := 14) (oi := ?p14c0) (v := ?v14c0) ?o14c0 (by kernel_rfl) (by kernel_rfl) (by kernel_rfl) ?q14c0 ?y14c0 hHeld ?r14c0
                        case o14c0 => simp only [List.getElem?_toArray, List.getElem?_cons_succ, List.getElem?_cons_zero]; rfl
                        case q14c0 => exact fun _ _ _ h => h
                        case y14c0 => (refine Or.inl ⟨rfl, ?_⟩; intro wq hq; obtain ⟨⟨z0, z1, z2⟩, ⟨y0, y1, y2⟩⟩ := HS.out wq hq; go_simp; try with_reducible rfl)
                        simp only [Act.put, List.setIfInBounds_toArray, List.set_cons_zero, List.set_cons_succ]
                        refine wpAnyH_take (i := 15) (oi := ?p15c0) (v := ?v15c0) ?o15c0 (by kernel_rfl) (by kernel_rfl) (by kernel_rfl) ?q15c0 ?y15c0 hHeld ?r15c0
                        case o15c0 => simp only [List.getElem?_toArray, List.getElem?_cons_succ, List.getElem?_cons_zero]; rfl
                        case q15c0 => exact fun _ _ _ h => h
                        case y15c0 => (refine Or.inl ⟨rfl, ?_⟩; intro wq hq; obtain ⟨⟨z0, z1, z2⟩, ⟨y0, y1, y2⟩⟩ := HS.out wq hq; go_simp; try with_reducible rfl)
                        simp only [Act.put, List.setIfInBounds_toArray, List.set_cons_zero, List.set_cons_succ]
                        refine wpAnyH_take (i := 16) (oi := ?p16c0) (v := ?v16c0) ?o16c0 (by kernel_rfl) (by kernel_rfl) (by kernel_rfl) ?q16c0 ?y16c0 hHeld ?r16c0
                        case o16c0 => simp only [List.getElem?_toArray, List.getElem?_cons_succ, List.getElem?_cons_zero]; rfl
                        case q16c0 => exact fun _ _ _ h => h
                        case y16c0 => (refine Or.inl ⟨rfl, ?_⟩; intro wq hq; obtain ⟨⟨z0, z1, z2⟩, ⟨y0, y1, y2⟩⟩ := HS.out wq hq; go_simp; try with_reducible rfl)
                        simp only [Act.put, List.setIfInBounds_toArray, List.set_cons_zero, List.set_cons_succ]
                        refine wpAnyH_take (i := 17) (oi := ?p17c0) (v := ?v17c0) ?o17c0 (by kernel_rfl) (by kernel_rfl) (by kernel_rfl) ?q17c0 ?y17c0 hHeld ?r17c0
                        case o17c0 => simp only [List.getElem?_toArray, List.getElem?_cons_succ, List.getElem?_cons_zero]; rfl
                        case q17c0 => exact fun _ _ _ h => h
                        case y17c0 => (refine Or.inl ⟨rfl, ?_⟩; intro wq hq; obtain ⟨⟨z0, z1, z2⟩, ⟨y0, y1, y2⟩⟩ := HS.out wq hq; go_simp; try with_reducible rfl)
                        simp only [Act.put, List.setIfInBounds_toArray, List.set_cons_zero, List.set_cons_succ]
                        refine wpAnyH_take (i := 18) (oi := ?p18c0) (v := ?v18c0) ?o18c0 (by kernel_rfl) (by kernel_rfl) (by kernel_rfl) ?q18c0 ?y18c0 hHeld ?r18c0
                        case o18c0 => simp only [List.getElem?_toArray, List.getElem?_cons_succ, List.getElem?_cons_zero]; rfl
                        case q18c0 => exact fun _ _ _ h => h
                        case y18c0 => (refine Or.inl ⟨rfl, ?_⟩; intro wq hq; obtain ⟨⟨z0, z1, z2⟩, ⟨y0, y1, y2⟩⟩ := HS.out wq hq; go_simp; try with_reducible rfl)
                        simp only [Act.put, List.setIfInBounds_toArray, List.set_cons_zero, List.set_cons_succ]
                        refine wpAnyH_take (i := 19) (oi := ?p19c0) (v := ?v19c0) ?o19c0 (by kernel_rfl) (by kernel_rfl) (by kernel_rfl) ?q19c0 ?y19c0 hHeld ?r19c0
                        case o19c0 => simp only [List.getElem?_toArray, List.getElem?_cons_succ, List.getElem?_cons_zero]; rfl
                        case q19c0 => exact fun _ _ _ h => h
                        case y19c0 => (refine Or.inl ⟨rfl, ?_⟩; intro wq hq; obtain ⟨⟨z0, z1, z2⟩, ⟨y0, y1, y2⟩⟩ := HS.out wq hq; go_simp; try with_reducible rfl)
                        simp only [Act.put, List.setIfInBounds_toArray, List.set_cons_zero, List.set_cons_succ]
                        refine wpAnyH_take (i := 20) (oi := ?p20c0) (v := ?v20c0) ?o20c0 (by kernel_rfl) (by kernel_rfl) (by kernel_rfl) ?q20c0 ?y20c0 hHeld ?r20c0
                        case o20c0 => simp only [List.getElem?_toArray, List.getElem?_cons_succ, List.getElem?_cons_zero]; rfl
                        case q20c0 => exact fun _ _ _ h => h
                        case y20c0 => (refine Or.inl ⟨rfl, ?_⟩; intro wq hq; obtain ⟨⟨z0, z1, z2⟩, ⟨y0, y1, y2⟩⟩ := HS.out wq hq; go_simp; try with_reducible rfl)
                        simp only [Act.put, List.setIfInBounds_toArray, List.set_cons_zero, List.set_cons_succ]
                        refine wpAnyH_take (i := 21) (oi := ?p21c0) (v := ?v21c0) ?o21c0 (by kernel_rfl) (by kernel_rfl) (by kernel_rfl) ?q21c0 ?y21c0 hHeld ?r21c0
                        case o21c0 => simp only [List.getElem?_toArray, List.getElem?_cons_succ, List.getElem?_cons_zero]; rfl
                        case q21c0 => exact fun _ _ _ h => h
                        case y21c0 => (refine Or.inl ⟨rfl, ?_⟩; intro wq hq; obtain ⟨⟨z0, z1, z2⟩, ⟨y0, y1, y2⟩⟩ := HS.out wq hq; go_simp; try with_reducible rfl)
                        simp only [Act.put, List.setIfInBounds_toArray, List.set_cons_zero, List.set_cons_succ]
                        refine wpAnyH_ready (rs := [22]) (by kernel_rfl) (by simp) ?_
                        refine AllReadyH.cons (o := ?p22c0) ?o22c0 ?s22c0 AllReadyH.nil
                        case o22c0 => simp only [List.getElem?_toArray, List.getElem?_cons_succ, List.getElem?_cons_zero]; rfl
                        intro K hK
                        go_simp
                        refine (hcm _).mono ?_
                        rintro e v22 ⟨rfl, hb⟩
                        have B22 : Below wr.heap.size wr v22 := hHeld.trans (hb.mono hHeld.size)
                        clear hb
                        refine hK.out _ _ B22 (fun hHeld => ?_)
                        clear hK K
                        refine wpAnyH_take (i := 23) (oi := ?p23c0) (v := ?v23c0) ?o23c0 (by kernel_rfl) (by kernel_rfl) (by kernel_rfl) ?q23c0 ?y23c0 hHeld ?r23c0
                        case o23c0 => simp only [List.getElem?_toArray, List.getElem?_cons_succ, List.getElem?_cons_zero]; rfl
                        case q23c0 => exact fun _ _ _ h => h
                        case y23c0 => (refine Or.inl ⟨rfl, ?_⟩; intro wq hq; obtain ⟨⟨z0, z1, z2⟩, ⟨y0, y1, y2⟩⟩ := HS.out wq hq; go_simp; try with_reducible rfl)
                        simp only [Act.put, List.setIfInBounds_toArray, List.set_cons_zero, List.set_cons_succ]
                        refine wpAnyH_take (i := 24) (oi := ?p24c0) (v := ?v24c0) ?o24c0 (by kernel_rfl) (by kernel_rfl) (by kernel_rfl) ?q24c0 ?y24c0 hHeld ?r24c0
                        case o24c0 => simp only [List.getElem?_toArray, List.getElem?_cons_succ, List.getElem?_cons_zero]; rfl
                        case q24c0 => exact fun _ _ _ h => h
                        case y24c0 => (refine Or.inl ⟨rfl, ?_⟩; intro wq hq; obtain ⟨⟨z0, z1, z2⟩, ⟨y0, y1, y2⟩⟩ := HS.out wq hq; go_simp; try with_reducible rfl)
                        simp only [Act.put, List.setIfInBounds_toArray, List.set_cons_zero, List.set_cons_succ]
                        refine wpAnyH_done (by kernel_rfl) ?_ _
                        have HBF := Hid_of (bel_up HBR.out hHeld (Nat.le_refl _))
                        clear hHeld
                        go_wp2
                        go_roundw
                        case rel => exact ⟨r + 1, by omega, by go_num, HBF.out⟩
                        case measure => simp [intOf]; omega
                      · have hss' : (xs == ys) = false := by simpa using hss
                        clear HCM
                        go_wp2_with fail
                        refine wp_region_held_drew (S := fun wq => Below (wr).heap.size (wr) wq) (by kernel_rfl) (Below.drew (Below.refl _ _)) (fun hHeld => ?_)
                        refine wpAnyH_take (i := 0) (oi := ?p0c1) (v := ?v0c1) ?o0c1 (by kernel_rfl) (by kernel_rfl) (by kernel_rfl) ?q0c1 ?y0c1 hHeld ?r0c1
                        case o0c1 => simp only [List.getElem?_toArray, List.getElem?_cons_zero]; rfl
                        case q0c1 => exact fun _ _ _ h => h
                        case y0c1 => (refine Or.inl ⟨rfl, ?_⟩; intro wq hq; obtain ⟨⟨z0, z1, z2⟩, ⟨y0, y1, y2⟩⟩ := HS.out wq hq; go_simp; try with_reducible rfl)
                        simp only [Act.put, List.setIfInBounds_toArray, List.set_cons_zero, List.set_cons_succ]
                        refine wpAnyH_take (i := 1) (oi := ?p1c1) (v := ?v1c1) ?o1c1 (by kernel_rfl) (by kernel_rfl) (by kernel_rfl) ?q1c1 ?y1c1 hHeld ?r1c1
                        case o1c1 => simp only [List.getElem?_toArray, List.getElem?_cons_succ, List.getElem?_cons_zero]; rfl
                        case q1c1 => exact fun _ _ _ h => h
                        case y1c1 => (refine Or.inl ⟨rfl, ?_⟩; intro wq hq; obtain ⟨⟨z0, z1, z2⟩, ⟨y0, y1, y2⟩⟩ := HS.out wq hq; go_simp; try with_reducible rfl)
                        simp only [Act.put, List.setIfInBounds_toArray, List.set_cons_zero, List.set_cons_succ]
                        refine wpAnyH_take (i := 2) (oi := ?p2c1) (v := ?v2c1) ?o2c1 (by kernel_rfl) (by kernel_rfl) (by kernel_rfl) ?q2c1 ?y2c1 hHeld ?r2c1
                        case o2c1 => simp only [List.getElem?_toArray, List.getElem?_cons_succ, List.getElem?_cons_zero]; rfl
                        case q2c1 => exact fun _ _ _ h => h
                        case y2c1 => (refine Or.inl ⟨rfl, ?_⟩; intro wq hq; obtain ⟨⟨z0, z1, z2⟩, ⟨y0, y1, y2⟩⟩ := HS.out wq hq; go_simp; try with_reducible rfl)
                        simp only [Act.put, List.setIfInBounds_toArray, List.set_cons_zero, List.set_cons_succ]
                        refine wpAnyH_take (i := 3) (oi := ?p3c1) (v := ?v3c1) ?o3c1 (by kernel_rfl) (by kernel_rfl) (by kernel_rfl) ?q3c1 ?y3c1 hHeld ?r3c1
                        case o3c1 => simp only [List.getElem?_toArray, List.getElem?_cons_succ, List.getElem?_cons_zero]; rfl
                        case q3c1 => exact fun _ _ _ h => h
                        case y3c1 => (refine Or.inl ⟨rfl, ?_⟩; intro wq hq; obtain ⟨⟨z0, z1, z2⟩, ⟨y0, y1, y2⟩⟩ := HS.out wq hq; go_simp; try with_reducible rfl)
                        simp only [Act.put, List.setIfInBounds_toArray, List.set_cons_zero, List.set_cons_succ]
                        refine wpAnyH_take (i := 4) (oi := ?p4c1) (v := ?v4c1) ?o4c1 (by kernel_rfl) (by kernel_rfl) (by kernel_rfl) ?q4c1 ?y4c1 hHeld ?r4c1
                        case o4c1 => simp only [List.getElem?_toArray, List.getElem?_cons_succ, List.getElem?_cons_zero]; rfl
                        case q4c1 => exact fun _ _ _ h => h
                        case y4c1 => (refine Or.inl ⟨rfl, ?_⟩; intro wq hq; obtain ⟨⟨z0, z1, z2⟩, ⟨y0, y1, y2⟩⟩ := HS.out wq hq; go_simp; try with_reducible rfl)
                        simp only [Act.put, List.setIfInBounds_toArray, List.set_cons_zero, List.set_cons_succ]
                        refine wpAnyH_take (i := 5) (oi := ?p5c1) (v := ?v5c1) ?o5c1 (by kernel_rfl) (by kernel_rfl) (by kernel_rfl) ?q5c1 ?y5c1 hHeld ?r5c1
                        case o5c1 => simp only [List.getElem?_toArray, List.getElem?_cons_succ, List.getElem?_cons_zero]; rfl
                        case q5c1 => exact fun _ _ _ h => h
                        case y5c1 => (refine Or.inl ⟨rfl, ?_⟩; intro wq hq; obtain ⟨⟨z0, z1, z2⟩, ⟨y0, y1, y2⟩⟩ := HS.out wq hq; go_simp; try with_reducible rfl)
                        simp only [Act.put, List.setIfInBounds_toArray, List.set_cons_zero, List.set_cons_succ]
                        refine wpAnyH_take (i := 6) (oi := ?p6c1) (v := ?v6c1) ?o6c1 (by kernel_rfl) (by kernel_rfl) (by kernel_rfl) ?q6c1 ?y6c1 hHeld ?r6c1
                        case o6c1 => simp only [List.getElem?_toArray, List.getElem?_cons_succ, List.getElem?_cons_zero]; rfl
                        case q6c1 => exact fun _ _ _ h => h
                        case y6c1 => (refine Or.inl ⟨rfl, ?_⟩; intro wq hq; obtain ⟨⟨z0, z1, z2⟩, ⟨y0, y1, y2⟩⟩ := HS.out wq hq; go_simp; try with_reducible rfl)
                        simp only [Act.put, List.setIfInBounds_toArray, List.set_cons_zero, List.set_cons_succ]
                        refine wpAnyH_take (i := 7) (oi := ?p7c1) (v := ?v7c1) ?o7c1 (by kernel_rfl) (by kernel_rfl) (by kernel_rfl) ?q7c1 ?y7c1 hHeld ?r7c1
                        case o7c1 => simp only [List.getElem?_toArray, List.getElem?_cons_succ, List.getElem?_cons_zero]; rfl
                        case q7c1 => exact fun _ _ _ h => h
                        case y7c1 => (refine Or.inl ⟨rfl, ?_⟩; intro wq hq; obtain ⟨⟨z0, z1, z2⟩, ⟨y0, y1, y2⟩⟩ := HS.out wq hq; go_simp; try with_reducible rfl)
                        simp only [Act.put, List.setIfInBounds_toArray, List.set_cons_zero, List.set_cons_succ]
                        refine wpAnyH_take (i := 8) (oi := ?p8c1) (v := ?v8c1) ?o8c1 (by kernel_rfl) (by kernel_rfl) (by kernel_rfl) ?q8c1 ?y8c1 hHeld ?r8c1
                        case o8c1 => simp only [List.getElem?_toArray, List.getElem?_cons_succ, List.getElem?_cons_zero]; rfl
                        case q8c1 => exact fun _ _ _ h => h
                        case y8c1 => (refine Or.inl ⟨rfl, ?_⟩; intro wq hq; obtain ⟨⟨z0, z1, z2⟩, ⟨y0, y1, y2⟩⟩ := HS.out wq hq; go_simp; try with_reducible rfl)
                        simp only [Act.put, List.setIfInBounds_toArray, List.set_cons_zero, List.set_cons_succ]
                        refine wpAnyH_take (i := 9) (oi := ?p9c1) (v := ?v9c1) ?o9c1 (by kernel_rfl) (by kernel_rfl) (by kernel_rfl) ?q9c1 ?y9c1 hHeld ?r9c1
                        case o9c1 => simp only [List.getElem?_toArray, List.getElem?_cons_succ, List.getElem?_cons_zero]; rfl
                        case q9c1 => exact fun _ _ _ h => h
                        case y9c1 => (refine Or.inl ⟨rfl, ?_⟩; intro wq hq; obtain ⟨⟨z0, z1, z2⟩, ⟨y0, y1, y2⟩⟩ := HS.out wq hq; go_simp; try with_reducible rfl)
                        simp only [Act.put, List.setIfInBounds_toArray, List.set_cons_zero, List.set_cons_succ]
                        refine wpAnyH_take (i := 10) (oi := ?p10c1) (v := ?v10c1) ?o10c1 (by kernel_rfl) (by kernel_rfl) (by kernel_rfl) ?q10c1 ?y10c1 hHeld ?r10c1
                        case o10c1 => simp only [List.getElem?_toArray, List.getElem?_cons_succ, List.getElem?_cons_zero]; rfl
                        case q10c1 => exact fun _ _ _ h => h
                        case y10c1 => (refine Or.inl ⟨rfl, ?_⟩; intro wq hq; obtain ⟨⟨z0, z1, z2⟩, ⟨y0, y1, y2⟩⟩ := HS.out wq hq; go_simp; try with_reducible rfl)
                        simp only [Act.put, List.setIfInBounds_toArray, List.set_cons_zero, List.set_cons_succ]
                        refine wpAnyH_take (i := 11) (oi := ?p11c1) (v := ?v11c1) ?o11c1 (by kernel_rfl) (by kernel_rfl) (by kernel_rfl) ?q11c1 ?y11c1 hHeld ?r11c1
                        case o11c1 => simp only [List.getElem?_toArray, List.getElem?_cons_succ, List.getElem?_cons_zero]; rfl
                        case q11c1 => exact fun _ _ _ h => h
                        case y11c1 => (refine Or.inl ⟨rfl, ?_⟩; intro wq hq; obtain ⟨⟨z0, z1, z2⟩, ⟨y0, y1, y2⟩⟩ := HS.out wq hq; go_simp; try with_reducible rfl)
                        simp only [Act.put, List.setIfInBounds_toArray, List.set_cons_zero, List.set_cons_succ]
                        refine wpAnyH_take (i := 12) (oi := ?p12c1) (v := undef) ?o12c1 (by kernel_rfl) (by kernel_rfl) (by kernel_rfl) ?q12c1 ?y12c1 hHeld ?r12c1
                        case o12c1 => simp only [List.getElem?_toArray, List.getElem?_cons_succ, List.getElem?_cons_zero]; rfl
                        case q12c1 => exact fun _ _ _ h => h
                        case y12c1 => exact Or.inr ⟨rfl, rfl⟩
                        simp only [Act.put, List.setIfInBounds_toArray, List.set_cons_zero, List.set_cons_succ]
                        refine wpAnyH_take (i := 13) (oi := ?p13c1) (v := undef) ?o13c1 (by kernel_rfl) (by kernel_rfl) (by kernel_rfl) ?q13c1 ?y13c1 hHeld ?r13c1
                        case o13c1 => simp only [List.getElem?_toArray, List.getElem?_cons_succ, List.getElem?_cons_zero]; rfl
                        case q13c1 => exact fun _ _ _ h => h
                        case y13c1 => exact Or.inr ⟨rfl, rfl⟩
                        simp only [Act.put, List.setIfInBounds_toArray, List.set_cons_zero, List.set_cons_succ]
                        refine wpAnyH_take (i := 14) (oi := ?p14c1) (v := undef) ?o14c1 (by kernel_rfl) (by kernel_rfl) (by kernel_rfl) ?q14c1 ?y14c1 hHeld ?r14c1
                        case o14c1 => simp only [List.getElem?_toArray, List.getElem?_cons_succ, List.getElem?_cons_zero]; rfl
                        case q14c1 => exact fun _ _ _ h => h
                        case y14c1 => exact Or.inr ⟨rfl, rfl⟩
                        simp only [Act.put, List.setIfInBounds_toArray, List.set_cons_zero, List.set_cons_succ]
                        refine wpAnyH_take (i := 15) (oi := ?p15c1) (v := undef) ?o15c1 (by kernel_rfl) (by kernel_rfl) (by kernel_rfl) ?q15c1 ?y15c1 hHeld ?r15c1
                        case o15c1 => simp only [List.getElem?_toArray, List.getElem?_cons_succ, List.getElem?_cons_zero]; rfl
                        case q15c1 => exact fun _ _ _ h => h
                        case y15c1 => exact Or.inr ⟨rfl, rfl⟩
                        simp only [Act.put, List.setIfInBounds_toArray, List.set_cons_zero, List.set_cons_succ]
                        refine wpAnyH_take (i := 16) (oi := ?p16c1) (v := undef) ?o16c1 (by kernel_rfl) (by kernel_rfl) (by kernel_rfl) ?q16c1 ?y16c1 hHeld ?r16c1
                        case o16c1 => simp only [List.getElem?_toArray, List.getElem?_cons_succ, List.getElem?_cons_zero]; rfl
                        case q16c1 => exact fun _ _ _ h => h
                        case y16c1 => exact Or.inr ⟨rfl, rfl⟩
                        simp only [Act.put, List.setIfInBounds_toArray, List.set_cons_zero, List.set_cons_succ]
                        refine wpAnyH_take (i := 17) (oi := ?p17c1) (v := undef) ?o17c1 (by kernel_rfl) (by kernel_rfl) (by kernel_rfl) ?q17c1 ?y17c1 hHeld ?r17c1
                        case o17c1 => simp only [List.getElem?_toArray, List.getElem?_cons_succ, List.getElem?_cons_zero]; rfl
                        case q17c1 => exact fun _ _ _ h => h
                        case y17c1 => exact Or.inr ⟨rfl, rfl⟩
                        simp only [Act.put, List.setIfInBounds_toArray, List.set_cons_zero, List.set_cons_succ]
                        refine wpAnyH_take (i := 18) (oi := ?p18c1) (v := undef) ?o18c1 (by kernel_rfl) (by kernel_rfl) (by kernel_rfl) ?q18c1 ?y18c1 hHeld ?r18c1
                        case o18c1 => simp only [List.getElem?_toArray, List.getElem?_cons_succ, List.getElem?_cons_zero]; rfl
                        case q18c1 => exact fun _ _ _ h => h
                        case y18c1 => exact Or.inr ⟨rfl, rfl⟩
                        simp only [Act.put, List.setIfInBounds_toArray, List.set_cons_zero, List.set_cons_succ]
                        refine wpAnyH_take (i := 19) (oi := ?p19c1) (v := undef) ?o19c1 (by kernel_rfl) (by kernel_rfl) (by kernel_rfl) ?q19c1 ?y19c1 hHeld ?r19c1
                        case o19c1 => simp only [List.getElem?_toArray, List.getElem?_cons_succ, List.getElem?_cons_zero]; rfl
                        case q19c1 => exact fun _ _ _ h => h
                        case y19c1 => exact Or.inr ⟨rfl, rfl⟩
                        simp only [Act.put, List.setIfInBounds_toArray, List.set_cons_zero, List.set_cons_succ]
                        refine wpAnyH_take (i := 20) (oi := ?p20c1) (v := undef) ?o20c1 (by kernel_rfl) (by kernel_rfl) (by kernel_rfl) ?q20c1 ?y20c1 hHeld ?r20c1
                        case o20c1 => simp only [List.getElem?_toArray, List.getElem?_cons_succ, List.getElem?_cons_zero]; rfl
                        case q20c1 => exact fun _ _ _ h => h
                        case y20c1 => exact Or.inr ⟨rfl, rfl⟩
                        simp only [Act.put, List.setIfInBounds_toArray, List.set_cons_zero, List.set_cons_succ]
                        refine wpAnyH_take (i := 21) (oi := ?p21c1) (v := undef) ?o21c1 (by kernel_rfl) (by kernel_rfl) (by kernel_rfl) ?q21c1 ?y21c1 hHeld ?r21c1
                        case o21c1 => simp only [List.getElem?_toArray, List.getElem?_cons_succ, List.getElem?_cons_zero]; rfl
                        case q21c1 => exact fun _ _ _ h => h
                        case y21c1 => exact Or.inr ⟨rfl, rfl⟩
                        simp only [Act.put, List.setIfInBounds_toArray, List.set_cons_zero, List.set_cons_succ]
                        refine wpAnyH_take (i := 22) (oi := ?p22c1) (v := undef) ?o22c1 (by kernel_rfl) (by kernel_rfl) (by kernel_rfl) ?q22c1 ?y22c1 hHeld ?r22c1
                        case o22c1 => simp only [List.getElem?_toArray, List.getElem?_cons_succ, List.getElem?_cons_zero]; rfl
                        case q22c1 => exact fun _ _ _ h => h
                        case y22c1 => exact Or.inr ⟨rfl, rfl⟩
                        simp only [Act.put, List.setIfInBounds_toArray, List.set_cons_zero, List.set_cons_succ]
                        refine wpAnyH_take (i := 23) (oi := ?p23c1) (v := undef) ?o23c1 (by kernel_rfl) (by kernel_rfl) (by kernel_rfl) ?q23c1 ?y23c1 hHeld ?r23c1
                        case o23c1 => simp only [List.getElem?_toArray, List.getElem?_cons_succ, List.getElem?_cons_zero]; rfl
                        case q23c1 => exact fun _ _ _ h => h
                        case y23c1 => exact Or.inr ⟨rfl, rfl⟩
                        simp only [Act.put, List.setIfInBounds_toArray, List.set_cons_zero, List.set_cons_succ]
                        refine wpAnyH_take (i := 24) (oi := ?p24c1) (v := ?v24c1) ?o24c1 (by kernel_rfl) (by kernel_rfl) (by kernel_rfl) ?q24c1 ?y24c1 hHeld ?r24c1
                        case o24c1 => simp only [List.getElem?_toArray, List.getElem?_cons_succ, List.getElem?_cons_zero]; rfl
                        case q24c1 => exact fun _ _ _ h => h
                        case y24c1 => (refine Or.inl ⟨rfl, ?_⟩; intro wq hq; obtain ⟨⟨z0, z1, z2⟩, ⟨y0, y1, y2⟩⟩ := HS.out wq hq; go_simp; try with_reducible rfl)
                        simp only [Act.put, List.setIfInBounds_toArray, List.set_cons_zero, List.set_cons_succ]
                        refine wpAnyH_done (by kernel_rfl) ?_ _
                        have HBF := Hid_of (bel_up HBR.out hHeld (Nat.le_refl _))
                        clear hHeld
                        go_wp2
                        go_roundw
                        case rel => exact ⟨r + 1, by omega, by go_num, HBF.out⟩
                        case measure => simp [intOf]; omega
                    · obtain rfl : r = a2.l.length := by omega
                      have HBR := Hid_of hbr
                      clear hbr
                      go_wp2
                      go_roundw
                      case rel => exact ⟨q + 1, by omega, by go_num, HBR.out⟩
                      case measure => simp [intOf]; omega
                · obtain rfl : q = s.l.length := by omega
                  have HS8 := Hid_of (HS7.out.keep hbq)
                  have HPM : Hid (∀ W, Below wr.heap.size wr W → Calls Try.prog 17 #[.pointer (some ⟨b, 0, none⟩)] W fun e w' => e = .returned (bV a2.p) ∧ Below W.heap.size W w') := fun W hW => (HS8.out.keep hW).promised
                  have HW8 := Hid_of (HW7.out.up hbq).row
                  have HS : Hid (∀ w', Below wr.heap.size wr w' → (w'.cell? ⟨bw, 0, none⟩ = some (.int .i64 s.p.i) ∧ w'.cell? ⟨bw, 1, none⟩ = some (.int .i64 s.p.t))) := fun w' hb => (row2 (bel_row HW8.out hb)).1
                  have hcm := fun W => rcmp_any a2.p s.p W
                  have hcv : ¬ M.cmpE a2.p s.p < 0 := by have := HR5.out.p; omega
                  generalize M.cmpE a2.p s.p = cv at *
                  have dcv : decide (cv < 0) = false := decide_eq_false hcv
                  clear hbq hcv HX7 HN7 HW7 HS7
                  go_wp2_with fail
                  refine wp_region_held_drew (S := fun wq => Below (wr).heap.size (wr) wq) (by kernel_rfl) (Below.drew (Below.refl _ _)) (fun hHeld => ?_)
                  refine wpAnyH_take (i := 0) (oi := ?p0c2) (v := ?v0c2) ?o0c2 (by kernel_rfl) (by kernel_rfl) (by kernel_rfl) ?q0c2 ?y0c2 hHeld ?r0c2
                  case o0c2 => simp only [List.getElem?_toArray, List.getElem?_cons_zero]; rfl
                  case q0c2 => exact fun _ _ _ h => h
                  case y0c2 => (refine Or.inl ⟨rfl, ?_⟩; intro wq hq; obtain ⟨y0, y1⟩ := HS.out wq hq; go_simp; try with_reducible rfl)
                  simp only [Act.put, List.setIfInBounds_toArray, List.set_cons_zero, List.set_cons_succ]
                  refine wpAnyH_take (i := 2) (oi := ?p2c2) (v := ?v2c2) ?o2c2 (by kernel_rfl) (by kernel_rfl) (by kernel_rfl) ?q2c2 ?y2c2 hHeld ?r2c2
                  case o2c2 => simp only [List.getElem?_toArray, List.getElem?_cons_succ, List.getElem?_cons_zero]; rfl
                  case q2c2 => exact fun _ _ _ h => h
                  case y2c2 => (refine Or.inl ⟨rfl, ?_⟩; intro wq hq; obtain ⟨y0, y1⟩ := HS.out wq hq; go_simp; try with_reducible rfl)
                  simp only [Act.put, List.setIfInBounds_toArray, List.set_cons_zero, List.set_cons_succ]
                  refine wpAnyH_ready (rs := [1]) (by kernel_rfl) (by simp) ?_
                  refine AllReadyH.cons (o := ?p1c2) ?o1c2 ?s1c2 AllReadyH.nil
                  case o1c2 => simp only [List.getElem?_toArray, List.getElem?_cons_succ, List.getElem?_cons_zero]; rfl
                  intro K hK
                  go_simp
                  refine (HPM.out _ hHeld).mono ?_
                  rintro e v1 ⟨rfl, hb⟩
                  have B1 : Below wr.heap.size wr v1 := hHeld.trans (hb.mono hHeld.size)
                  clear hb
                  refine hK.out _ _ B1 (fun hHeld => ?_)
                  clear hK K
                  refine wpAnyH_ready (rs := [3]) (by kernel_rfl) (by simp) ?_
                  refine AllReadyH.cons (o := ?p3c2) ?o3c2 ?s3c2 AllReadyH.nil
                  case o3c2 => simp only [List.getElem?_toArray, List.getElem?_cons_succ, List.getElem?_cons_zero]; rfl
                  intro K hK
                  go_simp
                  refine (hcm _).mono ?_
                  rintro e v3 ⟨rfl, hb⟩
                  have B3 : Below wr.heap.size wr v3 := hHeld.trans (hb.mono hHeld.size)
                  clear hb
                  refine hK.out _ _ B3 (fun hHeld => ?_)
                  clear hK K
                  refine wpAnyH_take (i := 4) (oi := ?p4c2) (v := ?v4c2) ?o4c2 (by kernel_rfl) (by kernel_rfl) (by kernel_rfl) ?q4c2 ?y4c2 hHeld ?r4c2
                  case o4c2 => simp only [List.getElem?_toArray, List.getElem?_cons_succ, List.getElem?_cons_zero]; rfl
                  case q4c2 => exact fun _ _ _ h => h
                  case y4c2 => (refine Or.inl ⟨rfl, ?_⟩; intro wq hq; obtain ⟨y0, y1⟩ := HS.out wq hq; go_simp; try with_reducible rfl)
                  simp only [Act.put, List.setIfInBounds_toArray, List.set_cons_zero, List.set_cons_succ]
                  refine wpAnyH_done (by kernel_rfl) ?_ _
                  have HSF := Hid_of (HS8.out.keep hHeld)
                  clear hHeld HPM HS
                  go_wp2
                  go_roundw
                  case rel => exact ⟨k + 1, F5, a2, by omega, by go_num, HSF.out⟩
                  case measure => simp [intOf]; omega
            · have e0 : (dk == 0) = false := by simpa using hk0
              have e1 : (dk == 1) = false := by simpa using hk1
              have e2 : (dk == 2) = false := by simpa using hk2
              clear HV4
              have S5 := HS4.out
              have X5 := HX4.out
              have B5 := HW4.out
              have R5 := M.ris_no HOKA.out
              obtain ⟨a2, ha2⟩ : ∃ a2, s = a2 := ⟨_, rfl⟩
              obtain ⟨F5, hF5⟩ : ∃ F5, F = F5 := ⟨_, rfl⟩
              have S5 : AS w0 W4 F5 b a2 := by rw [← ha2, ← hF5]; exact HS4.out
              have R5 : M.Ris s a2 := by rw [← ha2]; exact R5
              rw [hF5] at X5 B5
              clear ha2 hF5 HS4 HX4 HW4
              -- the votes behind it
              have hv := S5.votes 0
              rw [S5.ok.all] at hv
              have HS5 := Hid_of S5
              have HX5 := Hid_of X5
              have HW5 := Hid_of B5
              have HR5 := Hid_of R5
              clear S5 X5 B5 R5
              go_wp2_with fail
              refine hv.mono ?_
              rintro e w7 ⟨ad7, cp7, rfl, hxl7, hbk7, hb7⟩
              have HS7 := Hid_of (HS5.out.keep hb7)
              have HX7 := Hid_of (HX5.out.up hb7)
              have HW7 := Hid_of (HW5.out.up hb7)
              have HN7 := Hid_of hxl7.at'
              have hln : a2.l.length ≤ 1024 := HS7.out.ok.len
              have hlv : s.l.length ≤ 1024 := HOKA.out.len
              clear hv hb7 hxl7 hbk7 HS5 HX5 HW5
              go_wp2
              go_loopw [9] (fun i wr2 => ∃ q : Nat, q ≤ s.l.length ∧ i = .int .i64 q ∧ Below w7.heap.size w7 wr2) (fun i _ => s.l.length - (intOf i).toNat)
              case atStart => exact ⟨0, Nat.zero_le _, rfl, Below.refl _ _⟩
              case round =>
                obtain ⟨q, hq, rfl, hbq⟩ := hrel
                by_cases hlq : q < s.l.length
                · have HBQ := Hid_of hbq
                  clear hbq
                  go_wp2
                  go_loopw [10] (fun i wr3 => ∃ r : Nat, r ≤ a2.l.length ∧ i = .int .i64 r ∧ Below w7.heap.size w7 wr3) (fun i _ => a2.l.length - (intOf i).toNat)
                  case atStart => exact ⟨0, Nat.zero_le _, rfl, HBQ.out⟩
                  case round =>
                    obtain ⟨r, hr, rfl, hbr⟩ := hrel
                    by_cases hlr : r < a2.l.length
                    · obtain ⟨g1, o1, rfl, c0, c1, c2, c3⟩ := HN7.out.getV r hlr
                      obtain ⟨g2, o2, e7, d0, d1, d2, d3⟩ := HX7.out.xl.at'.getV q hlq
                      cases e7
                      have HBR := Hid_of hbr
                      have hri : (r : Int) < (a2.l.length : Int) := by omega
                      have hqi : (q : Int) < (s.l.length : Int) := by omega
                      have HCM : Hid (a2.l[r].s = s.l[q].s → 0 ≤ M.cmpE a2.l[r].b s.l[q].b) := fun e => HR5.out.l _ (List.getElem_mem _) _ (List.getElem_mem _) e
                      have hcm := fun W => rcmp_any a2.l[r].b s.l[q].b W
                      have HS : Hid (∀ w', Below wr.heap.size wr w' → (w'.cell? ⟨g1, o1 + r * 4, none⟩ = some (.int .i64 a2.l[r].s) ∧ w'.cell? ⟨g1, o1 + r * 4 + 1, none⟩ = some (.int .i64 a2.l[r].b.i) ∧ w'.cell? ⟨g1, o1 + r * 4 + 2, none⟩ = some (.int .i64 a2.l[r].b.t)) ∧ (w'.cell? ⟨g2, o2 + q * 4, none⟩ = some (.int .i64 s.l[q].s) ∧ w'.cell? ⟨g2, o2 + q * 4 + 1, none⟩ = some (.int .i64 s.l[q].b.i) ∧ w'.cell? ⟨g2, o2 + q * 4 + 2, none⟩ = some (.int .i64 s.l[q].b.t))) := by
                        intro w' hb
                        have hb7 : Below w7.heap.size w7 w' := bel_up HBR.out hb (Nat.le_refl _)
                        have k1 : ∀ o v, w7.cell? ⟨g1, o, none⟩ = some v → w'.cell? ⟨g1, o, none⟩ = some v := fun o v h => (World.cell?_of_block (w := w7) (a := ⟨g1, o, none⟩) (hb7.block g1 (World.block_lt_of_cell? w7 _ h))).trans h
                        have k2 : ∀ o v, w7.cell? ⟨g2, o, none⟩ = some v → w'.cell? ⟨g2, o, none⟩ = some v := fun o v h => (World.cell?_of_block (w := w7) (a := ⟨g2, o, none⟩) (hb7.block g2 (World.block_lt_of_cell? w7 _ h))).trans h
                        exact ⟨⟨k1 _ _ c0, k1 _ _ c1, k1 _ _ c2⟩, ⟨k2 _ _ d0, k2 _ _ d1, k2 _ _ d2⟩⟩
                      clear c0 c1 c2 c3 d0 d1 d2 d3 hbr
                      generalize a2.l[r].s = xs at *
                      generalize a2.l[r].b = xb at *
                      generalize s.l[q].s = ys at *
                      generalize s.l[q].b = yb at *
                      by_cases hss : xs = ys
                      · have hcv : ¬ M.cmpE xb yb < 0 := by have := HCM.out hss; omega
                        generalize M.cmpE xb yb = cv at *
                        have dcv : decide (cv < 0) = false := decide_eq_false hcv
                        subst hss
                        clear HCM hcv
                        go_wp2_with fail
                        refine wp_region_held_drew (S := fun wq => Below (wr).heap.size (wr) wq) (by kernel_rfl) (Below.drew (Below.refl _ _)) (fun hHeld => ?_)
                        refine wpAnyH_take (i := 0) (oi := ?p0d0) (v := ?v0d0) ?o0d0 (by kernel_rfl) (by kernel_rfl) (by kernel_rfl) ?q0d0 ?y0d0 hHeld ?r0d0
                        case o0d0 => simp only [List.getElem?_toArray, List.getElem?_cons_zero]; rfl
                        case q0d0 => exact fun _ _ _ h => h
                        case y0d0 => (refine Or.inl ⟨rfl, ?_⟩; intro wq hq; obtain ⟨⟨z0, z1, z2⟩, ⟨y0, y1, y2⟩⟩ := HS.out wq hq; go_simp; try with_reducible rfl)
                        simp only [Act.put, List.setIfInBounds_toArray, List.set_cons_zero, List.set_cons_succ]
                        refine wpAnyH_take (i := 1) (oi := ?p1d0) (v := ?v1d0) ?o1d0 (by kernel_rfl) (by kernel_rfl) (by kernel_rfl) ?q1d0 ?y1d0 hHeld ?r1d0
                        case o1d0 => simp only [List.getElem?_toArray, List.getElem?_cons_succ, List.getElem?_cons_zero]; rfl
                        case q1d0 => exact fun _ _ _ h => h
                        case y1d0 => (refine Or.inl ⟨rfl, ?_⟩; intro wq hq; obtain ⟨⟨z0, z1, z2⟩, ⟨y0, y1, y2⟩⟩ := HS.out wq hq; go_simp; try with_reducible rfl)
                        simp only [Act.put, List.setIfInBounds_toArray, List.set_cons_zero, List.set_cons_succ]
                        refine wpAnyH_take (i := 2) (oi := ?p2d0) (v := ?v2d0) ?o2d0 (by kernel_rfl) (by kernel_rfl) (by kernel_rfl) ?q2d0 ?y2d0 hHeld ?r2d0
                        case o2d0 => simp only [List.getElem?_toArray, List.getElem?_cons_succ, List.getElem?_cons_zero]; rfl
                        case q2d0 => exact fun _ _ _ h => h
                        case y2d0 => (refine Or.inl ⟨rfl, ?_⟩; intro wq hq; obtain ⟨⟨z0, z1, z2⟩, ⟨y0, y1, y2⟩⟩ := HS.out wq hq; go_simp; try with_reducible rfl)
                        simp only [Act.put, List.setIfInBounds_toArray, List.set_cons_zero, List.set_cons_succ]
                        refine wpAnyH_take (i := 3) (oi := ?p3d0) (v := ?v3d0) ?o3d0 (by kernel_rfl) (by kernel_rfl) (by kernel_rfl) ?q3d0 ?y3d0 hHeld ?r3d0
                        case o3d0 => simp only [List.getElem?_toArray, List.getElem?_cons_succ, List.getElem?_cons_zero]; rfl
                        case q3d0 => exact fun _ _ _ h => h
                        case y3d0 => (refine Or.inl ⟨rfl, ?_⟩; intro wq hq; obtain ⟨⟨z0, z1, z2⟩, ⟨y0, y1, y2⟩⟩ := HS.out wq hq; go_simp; try with_reducible rfl)
                        simp only [Act.put, List.setIfInBounds_toArray, List.set_cons_zero, List.set_cons_succ]
                        refine wpAnyH_take (i := 4) (oi := ?p4d0) (v := ?v4d0) ?o4d0 (by kernel_rfl) (by kernel_rfl) (by kernel_rfl) ?q4d0 ?y4d0 hHeld ?r4d0
                        case o4d0 => simp only [List.getElem?_toArray, List.getElem?_cons_succ, List.getElem?_cons_zero]; rfl
                        case q4d0 => exact fun _ _ _ h => h
                        case y4d0 => (refine Or.inl ⟨rfl, ?_⟩; intro wq hq; obtain ⟨⟨z0, z1, z2⟩, ⟨y0, y1, y2⟩⟩ := HS.out wq hq; go_simp; try with_reducible rfl)
                        simp only [Act.put, List.setIfInBounds_toArray, List.set_cons_zero, List.set_cons_succ]
                        refine wpAnyH_take (i := 5) (oi := ?p5d0) (v := ?v5d0) ?o5d0 (by kernel_rfl) (by kernel_rfl) (by kernel_rfl) ?q5d0 ?y5d0 hHeld ?r5d0
                        case o5d0 => simp only [List.getElem?_toArray, List.getElem?_cons_succ, List.getElem?_cons_zero]; rfl
                        case q5d0 => exact fun _ _ _ h => h
                        case y5d0 => (refine Or.inl ⟨rfl, ?_⟩; intro wq hq; obtain ⟨⟨z0, z1, z2⟩, ⟨y0, y1, y2⟩⟩ := HS.out wq hq; go_simp; try with_reducible rfl)
                        simp only [Act.put, List.setIfInBounds_toArray, List.set_cons_zero, List.set_cons_succ]
                        refine wpAnyH_take (i := 6) (oi := ?p6d0) (v := ?v6d0) ?o6d0 (by kernel_rfl) (by kernel_rfl) (by kernel_rfl) ?q6d0 ?y6d0 hHeld ?r6d0
                        case o6d0 => simp only [List.getElem?_toArray, List.getElem?_cons_succ, List.getElem?_cons_zero]; rfl
                        case q6d0 => exact fun _ _ _ h => h
                        case y6d0 => (refine Or.inl ⟨rfl, ?_⟩; intro wq hq; obtain ⟨⟨z0, z1, z2⟩, ⟨y0, y1, y2⟩⟩ := HS.out wq hq; go_simp; try with_reducible rfl)
                        simp only [Act.put, List.setIfInBounds_toArray, List.set_cons_zero, List.set_cons_succ]
                        refine wpAnyH_take (i := 7) (oi := ?p7d0) (v := ?v7d0) ?o7d0 (by kernel_rfl) (by kernel_rfl) (by kernel_rfl) ?q7d0 ?y7d0 hHeld ?r7d0
                        case o7d0 => simp only [List.getElem?_toArray, List.getElem?_cons_succ, List.getElem?_cons_zero]; rfl
                        case q7d0 => exact fun _ _ _ h => h
                        case y7d0 => (refine Or.inl ⟨rfl, ?_⟩; intro wq hq; obtain ⟨⟨z0, z1, z2⟩, ⟨y0, y1, y2⟩⟩ := HS.out wq hq; go_simp; try with_reducible rfl)
                        simp only [Act.put, List.setIfInBounds_toArray, List.set_cons_zero, List.set_cons_succ]
                        refine wpAnyH_take (i := 8) (oi := ?p8d0) (v := ?v8d0) ?o8d0 (by kernel_rfl) (by kernel_rfl) (by kernel_rfl) ?q8d0 ?y8d0 hHeld ?r8d0
                        case o8d0 => simp only [List.getElem?_toArray, List.getElem?_cons_succ, List.getElem?_cons_zero]; rfl
                        case q8d0 => exact fun _ _ _ h => h
                        case y8d0 => (refine Or.inl ⟨rfl, ?_⟩; intro wq hq; obtain ⟨⟨z0, z1, z2⟩, ⟨y0, y1, y2⟩⟩ := HS.out wq hq; go_simp; try with_reducible rfl)
                        simp only [Act.put, List.setIfInBounds_toArray, List.set_cons_zero, List.set_cons_succ]
                        refine wpAnyH_take (i := 9) (oi := ?p9d0) (v := ?v9d0) ?o9d0 (by kernel_rfl) (by kernel_rfl) (by kernel_rfl) ?q9d0 ?y9d0 hHeld ?r9d0
                        case o9d0 => simp only [List.getElem?_toArray, List.getElem?_cons_succ, List.getElem?_cons_zero]; rfl
                        case q9d0 => exact fun _ _ _ h => h
                        case y9d0 => (refine Or.inl ⟨rfl, ?_⟩; intro wq hq; obtain ⟨⟨z0, z1, z2⟩, ⟨y0, y1, y2⟩⟩ := HS.out wq hq; go_simp; try with_reducible rfl)
                        simp only [Act.put, List.setIfInBounds_toArray, List.set_cons_zero, List.set_cons_succ]
                        refine wpAnyH_take (i := 10) (oi := ?p10d0) (v := ?v10d0) ?o10d0 (by kernel_rfl) (by kernel_rfl) (by kernel_rfl) ?q10d0 ?y10d0 hHeld ?r10d0
                        case o10d0 => simp only [List.getElem?_toArray, List.getElem?_cons_succ, List.getElem?_cons_zero]; rfl
                        case q10d0 => exact fun _ _ _ h => h
                        case y10d0 => (refine Or.inl ⟨rfl, ?_⟩; intro wq hq; obtain ⟨⟨z0, z1, z2⟩, ⟨y0, y1, y2⟩⟩ := HS.out wq hq; go_simp; try with_reducible rfl)
                        simp only [Act.put, List.setIfInBounds_toArray, List.set_cons_zero, List.set_cons_succ]
                        refine wpAnyH_take (i := 11) (oi := ?p11d0) (v := ?v11d0) ?o11d0 (by kernel_rfl) (by kernel_rfl) (by kernel_rfl) ?q11d0 ?y11d0 hHeld ?r11d0
                        case o11d0 => simp only [List.getElem?_toArray, List.getElem?_cons_succ, List.getElem?_cons_zero]; rfl
                        case q11d0 => exact fun _ _ _ h => h
                        case y11d0 => (refine Or.inl ⟨rfl, ?_⟩; intro wq hq; obtain ⟨⟨z0, z1, z2⟩, ⟨y0, y1, y2⟩⟩ := HS.out wq hq; go_simp; try with_reducible rfl)
                        simp only [Act.put, List.setIfInBounds_toArray, List.set_cons_zero, List.set_cons_succ]
                        refine wpAnyH_take (i := 12) (oi := ?p12d0) (v := ?v12d0) ?o12d0 (by kernel_rfl) (by kernel_rfl) (by kernel_rfl) ?q12d0 ?y12d0 hHeld ?r12d0
                        case o12d0 => simp only [List.getElem?_toArray, List.getElem?_cons_succ, List.getElem?_cons_zero]; rfl
                        case q12d0 => exact fun _ _ _ h => h
                        case y12d0 => (refine Or.inl ⟨rfl, ?_⟩; intro wq hq; obtain ⟨⟨z0, z1, z2⟩, ⟨y0, y1, y2⟩⟩ := HS.out wq hq; go_simp; try with_reducible rfl)
                        simp only [Act.put, List.setIfInBounds_toArray, List.set_cons_zero, List.set_cons_succ]
                        refine wpAnyH_take (i := 13) (oi := ?p13d0) (v := ?v13d0) ?o13d0 (by kernel_rfl) (by kernel_rfl) (by kernel_rfl) ?q13d0 ?y13d0 hHeld ?r13d0
                        case o13d0 => simp only [List.getElem?_toArray, List.getElem?_cons_succ, List.getElem?_cons_zero]; rfl
                        case q13d0 => exact fun _ _ _ h => h
                        case y13d0 => (refine Or.inl ⟨rfl, ?_⟩; intro wq hq; obtain ⟨⟨z0, z1, z2⟩, ⟨y0, y1, y2⟩⟩ := HS.out wq hq; go_simp; try with_reducible rfl)
                        simp only [Act.put, List.setIfInBounds_toArray, List.set_cons_zero, List.set_cons_succ]
                        refine wpAnyH_take (i := 14) (oi := ?p14d0) (v := ?v14d0) ?o14d0 (by kernel_rfl) (by kernel_rfl) (by kernel_rfl) ?q14d0 ?y14d0 hHeld ?r14d0
                        case o14d0 => simp only [List.getElem?_toArray, List.getElem?_cons_succ, List.getElem?_cons_zero]; rfl
                        case q14d0 => exact fun _ _ _ h => h
                        case y14d0 => (refine Or.inl ⟨rfl, ?_⟩; intro wq hq; obtain ⟨⟨z0, z1, z2⟩, ⟨y0, y1, y2⟩⟩ := HS.out wq hq; go_simp; try with_reducible rfl)
                        simp only [Act.put, List.setIfInBounds_toArray, List.set_cons_zero, List.set_cons_succ]
                        refine wpAnyH_take (i := 15) (oi := ?p15d0) (v := ?v15d0) ?o15d0 (by kernel_rfl) (by kernel_rfl) (by kernel_rfl) ?q15d0 ?y15d0 hHeld ?r15d0
                        case o15d0 => simp only [List.getElem?_toArray, List.getElem?_cons_succ, List.getElem?_cons_zero]; rfl
                        case q15d0 => exact fun _ _ _ h => h
                        case y15d0 => (refine Or.inl ⟨rfl, ?_⟩; intro wq hq; obtain ⟨⟨z0, z1, z2⟩, ⟨y0, y1, y2⟩⟩ := HS.out wq hq; go_simp; try with_reducible rfl)
                        simp only [Act.put, List.setIfInBounds_toArray, List.set_cons_zero, List.set_cons_succ]
                        refine wpAnyH_take (i := 16) (oi := ?p16d0) (v := ?v16d0) ?o16d0 (by kernel_rfl) (by kernel_rfl) (by kernel_rfl) ?q16d0 ?y16d0 hHeld ?r16d0
                        case o16d0 => simp only [List.getElem?_toArray, List.getElem?_cons_succ, List.getElem?_cons_zero]; rfl
                        case q16d0 => exact fun _ _ _ h => h
                        case y16d0 => (refine Or.inl ⟨rfl, ?_⟩; intro wq hq; obtain ⟨⟨z0, z1, z2⟩, ⟨y0, y1, y2⟩⟩ := HS.out wq hq; go_simp; try with_reducible rfl)
                        simp only [Act.put, List.setIfInBounds_toArray, List.set_cons_zero, List.set_cons_succ]
                        refine wpAnyH_take (i := 17) (oi := ?p17d0) (v := ?v17d0) ?o17d0 (by kernel_rfl) (by kernel_rfl) (by kernel_rfl) ?q17d0 ?y17d0 hHeld ?r17d0
                        case o17d0 => simp only [List.getElem?_toArray, List.getElem?_cons_succ, List.getElem?_cons_zero]; rfl
                        case q17d0 => exact fun _ _ _ h => h
                        case y17d0 => (refine Or.inl ⟨rfl, ?_⟩; intro wq hq; obtain ⟨⟨z0, z1, z2⟩, ⟨y0, y1, y2⟩⟩ := HS.out wq hq; go_simp; try with_reducible rfl)
                        simp only [Act.put, List.setIfInBounds_toArray, List.set_cons_zero, List.set_cons_succ]
                        refine wpAnyH_take (i := 18) (oi := ?p18d0) (v := ?v18d0) ?o18d0 (by kernel_rfl) (by kernel_rfl) (by kernel_rfl) ?q18d0 ?y18d0 hHeld ?r18d0
                        case o18d0 => simp only [List.getElem?_toArray, List.getElem?_cons_succ, List.getElem?_cons_zero]; rfl
                        case q18d0 => exact fun _ _ _ h => h
                        case y18d0 => (refine Or.inl ⟨rfl, ?_⟩; intro wq hq; obtain ⟨⟨z0, z1, z2⟩, ⟨y0, y1, y2⟩⟩ := HS.out wq hq; go_simp; try with_reducible rfl)
                        simp only [Act.put, List.setIfInBounds_toArray, List.set_cons_zero, List.set_cons_succ]
                        refine wpAnyH_take (i := 19) (oi := ?p19d0) (v := ?v19d0) ?o19d0 (by kernel_rfl) (by kernel_rfl) (by kernel_rfl) ?q19d0 ?y19d0 hHeld ?r19d0
                        case o19d0 => simp only [List.getElem?_toArray, List.getElem?_cons_succ, List.getElem?_cons_zero]; rfl
                        case q19d0 => exact fun _ _ _ h => h
                        case y19d0 => (refine Or.inl ⟨rfl, ?_⟩; intro wq hq; obtain ⟨⟨z0, z1, z2⟩, ⟨y0, y1, y2⟩⟩ := HS.out wq hq; go_simp; try with_reducible rfl)
                        simp only [Act.put, List.setIfInBounds_toArray, List.set_cons_zero, List.set_cons_succ]
                        refine wpAnyH_take (i := 20) (oi := ?p20d0) (v := ?v20d0) ?o20d0 (by kernel_rfl) (by kernel_rfl) (by kernel_rfl) ?q20d0 ?y20d0 hHeld ?r20d0
                        case o20d0 => simp only [List.getElem?_toArray, List.getElem?_cons_succ, List.getElem?_cons_zero]; rfl
                        case q20d0 => exact fun _ _ _ h => h
                        case y20d0 => (refine Or.inl ⟨rfl, ?_⟩; intro wq hq; obtain ⟨⟨z0, z1, z2⟩, ⟨y0, y1, y2⟩⟩ := HS.out wq hq; go_simp; try with_reducible rfl)
                        simp only [Act.put, List.setIfInBounds_toArray, List.set_cons_zero, List.set_cons_succ]
                        refine wpAnyH_take (i := 21) (oi := ?p21d0) (v := ?v21d0) ?o21d0 (by kernel_rfl) (by kernel_rfl) (by kernel_rfl) ?q21d0 ?y21d0 hHeld ?r21d0
                        case o21d0 => simp only [List.getElem?_toArray, List.getElem?_cons_succ, List.getElem?_cons_zero]; rfl
                        case q21d0 => exact fun _ _ _ h => h
                        case y21d0 => (refine Or.inl ⟨rfl, ?_⟩; intro wq hq; obtain ⟨⟨z0, z1, z2⟩, ⟨y0, y1, y2⟩⟩ := HS.out wq hq; go_simp; try with_reducible rfl)
                        simp only [Act.put, List.setIfInBounds_toArray, List.set_cons_zero, List.set_cons_succ]
                        refine wpAnyH_ready (rs := [22]) (by kernel_rfl) (by simp) ?_
                        refine AllReadyH.cons (o := ?p22d0) ?o22d0 ?s22d0 AllReadyH.nil
                        case o22d0 => simp only [List.getElem?_toArray, List.getElem?_cons_succ, List.getElem?_cons_zero]; rfl
                        intro K hK
                        go_simp
                        refine (hcm _).mono ?_
                        rintro e v22 ⟨rfl, hb⟩
                        have B22 : Below wr.heap.size wr v22 := hHeld.trans (hb.mono hHeld.size)
                        clear hb
                        refine hK.out _ _ B22 (fun hHeld => ?_)
                        clear hK K
                        refine wpAnyH_take (i := 23) (oi := ?p23d0) (v := ?v23d0) ?o23d0 (by kernel_rfl) (by kernel_rfl) (by kernel_rfl) ?q23d0 ?y23d0 hHeld ?r23d0
                        case o23d0 => simp only [List.getElem?_toArray, List.getElem?_cons_succ, List.getElem?_cons_zero]; rfl
                        case q23d0 => exact fun _ _ _ h => h
                        case y23d0 => (refine Or.inl ⟨rfl, ?_⟩; intro wq hq; obtain ⟨⟨z0, z1, z2⟩, ⟨y0, y1, y2⟩⟩ := HS.out wq hq; go_simp; try with_reducible rfl)
                        simp only [Act.put, List.setIfInBounds_toArray, List.set_cons_zero, List.set_cons_succ]
                        refine wpAnyH_take (i := 24) (oi := ?p24d0) (v := ?v24d0) ?o24d0 (by kernel_rfl) (by kernel_rfl) (by kernel_rfl) ?q24d0 ?y24d0 hHeld ?r24d0
                        case o24d0 => simp only [List.getElem?_toArray, List.getElem?_cons_succ, List.getElem?_cons_zero]; rfl
                        case q24d0 => exact fun _ _ _ h => h
                        case y24d0 => (refine Or.inl ⟨rfl, ?_⟩; intro wq hq; obtain ⟨⟨z0, z1, z2⟩, ⟨y0, y1, y2⟩⟩ := HS.out wq hq; go_simp; try with_reducible rfl)
                        simp only [Act.put, List.setIfInBounds_toArray, List.set_cons_zero, List.set_cons_succ]
                        refine wpAnyH_done (by kernel_rfl) ?_ _
                        have HBF := Hid_of (bel_up HBR.out hHeld (Nat.le_refl _))
                        clear hHeld
                        go_wp2
                        go_roundw
                        case rel => exact ⟨r + 1, by omega, by go_num, HBF.out⟩
                        case measure => simp [intOf]; omega
                      · have hss' : (xs == ys) = false := by simpa using hss
                        clear HCM
                        go_wp2_with fail
                        refine wp_region_held_drew (S := fun wq => Below (wr).heap.size (wr) wq) (by kernel_rfl) (Below.drew (Below.refl _ _)) (fun hHeld => ?_)
                        refine wpAnyH_take (i := 0) (oi := ?p0d1) (v := ?v0d1) ?o0d1 (by kernel_rfl) (by kernel_rfl) (by kernel_rfl) ?q0d1 ?y0d1 hHeld ?r0d1
                        case o0d1 => simp only [List.getElem?_toArray, List.getElem?_cons_zero]; rfl
                        case q0d1 => exact fun _ _ _ h => h
                        case y0d1 => (refine Or.inl ⟨rfl, ?_⟩; intro wq hq; obtain ⟨⟨z0, z1, z2⟩, ⟨y0, y1, y2⟩⟩ := HS.out wq hq; go_simp; try with_reducible rfl)
                        simp only [Act.put, List.setIfInBounds_toArray, List.set_cons_zero, List.set_cons_succ]
                        refine wpAnyH_take (i := 1) (oi := ?p1d1) (v := ?v1d1) ?o1d1 (by kernel_rfl) (by kernel_rfl) (by kernel_rfl) ?q1d1 ?y1d1 hHeld ?r1d1
                        case o1d1 => simp only [List.getElem?_toArray, List.getElem?_cons_succ, List.getElem?_cons_zero]; rfl
                        case q1d1 => exact fun _ _ _ h => h
                        case y1d1 => (refine Or.inl ⟨rfl, ?_⟩; intro wq hq; obtain ⟨⟨z0, z1, z2⟩, ⟨y0, y1, y2⟩⟩ := HS.out wq hq; go_simp; try with_reducible rfl)
                        simp only [Act.put, List.setIfInBounds_toArray, List.set_cons_zero, List.set_cons_succ]
                        refine wpAnyH_take (i := 2) (oi := ?p2d1) (v := ?v2d1) ?o2d1 (by kernel_rfl) (by kernel_rfl) (by kernel_rfl) ?q2d1 ?y2d1 hHeld ?r2d1
                        case o2d1 => simp only [List.getElem?_toArray, List.getElem?_cons_succ, List.getElem?_cons_zero]; rfl
                        case q2d1 => exact fun _ _ _ h => h
                        case y2d1 => (refine Or.inl ⟨rfl, ?_⟩; intro wq hq; obtain ⟨⟨z0, z1, z2⟩, ⟨y0, y1, y2⟩⟩ := HS.out wq hq; go_simp; try with_reducible rfl)
                        simp only [Act.put, List.setIfInBounds_toArray, List.set_cons_zero, List.set_cons_succ]
                        refine wpAnyH_take (i := 3) (oi := ?p3d1) (v := ?v3d1) ?o3d1 (by kernel_rfl) (by kernel_rfl) (by kernel_rfl) ?q3d1 ?y3d1 hHeld ?r3d1
                        case o3d1 => simp only [List.getElem?_toArray, List.getElem?_cons_succ, List.getElem?_cons_zero]; rfl
                        case q3d1 => exact fun _ _ _ h => h
                        case y3d1 => (refine Or.inl ⟨rfl, ?_⟩; intro wq hq; obtain ⟨⟨z0, z1, z2⟩, ⟨y0, y1, y2⟩⟩ := HS.out wq hq; go_simp; try with_reducible rfl)
                        simp only [Act.put, List.setIfInBounds_toArray, List.set_cons_zero, List.set_cons_succ]
                        refine wpAnyH_take (i := 4) (oi := ?p4d1) (v := ?v4d1) ?o4d1 (by kernel_rfl) (by kernel_rfl) (by kernel_rfl) ?q4d1 ?y4d1 hHeld ?r4d1
                        case o4d1 => simp only [List.getElem?_toArray, List.getElem?_cons_succ, List.getElem?_cons_zero]; rfl
                        case q4d1 => exact fun _ _ _ h => h
                        case y4d1 => (refine Or.inl ⟨rfl, ?_⟩; intro wq hq; obtain ⟨⟨z0, z1, z2⟩, ⟨y0, y1, y2⟩⟩ := HS.out wq hq; go_simp; try with_reducible rfl)
                        simp only [Act.put, List.setIfInBounds_toArray, List.set_cons_zero, List.set_cons_succ]
                        refine wpAnyH_take (i := 5) (oi := ?p5d1) (v := ?v5d1) ?o5d1 (by kernel_rfl) (by kernel_rfl) (by kernel_rfl) ?q5d1 ?y5d1 hHeld ?r5d1
                        case o5d1 => simp only [List.getElem?_toArray, List.getElem?_cons_succ, List.getElem?_cons_zero]; rfl
                        case q5d1 => exact fun _ _ _ h => h
                        case y5d1 => (refine Or.inl ⟨rfl, ?_⟩; intro wq hq; obtain ⟨⟨z0, z1, z2⟩, ⟨y0, y1, y2⟩⟩ := HS.out wq hq; go_simp; try with_reducible rfl)
                        simp only [Act.put, List.setIfInBounds_toArray, List.set_cons_zero, List.set_cons_succ]
                        refine wpAnyH_take (i := 6) (oi := ?p6d1) (v := ?v6d1) ?o6d1 (by kernel_rfl) (by kernel_rfl) (by kernel_rfl) ?q6d1 ?y6d1 hHeld ?r6d1
                        case o6d1 => simp only [List.getElem?_toArray, List.getElem?_cons_succ, List.getElem?_cons_zero]; rfl
                        case q6d1 => exact fun _ _ _ h => h
                        case y6d1 => (refine Or.inl ⟨rfl, ?_⟩; intro wq hq; obtain ⟨⟨z0, z1, z2⟩, ⟨y0, y1, y2⟩⟩ := HS.out wq hq; go_simp; try with_reducible rfl)
                        simp only [Act.put, List.setIfInBounds_toArray, List.set_cons_zero, List.set_cons_succ]
                        refine wpAnyH_take (i := 7) (oi := ?p7d1) (v := ?v7d1) ?o7d1 (by kernel_rfl) (by kernel_rfl) (by kernel_rfl) ?q7d1 ?y7d1 hHeld ?r7d1
                        case o7d1 => simp only [List.getElem?_toArray, List.getElem?_cons_succ, List.getElem?_cons_zero]; rfl
                        case q7d1 => exact fun _ _ _ h => h
                        case y7d1 => (refine Or.inl ⟨rfl, ?_⟩; intro wq hq; obtain ⟨⟨z0, z1, z2⟩, ⟨y0, y1, y2⟩⟩ := HS.out wq hq; go_simp; try with_reducible rfl)
                        simp only [Act.put, List.setIfInBounds_toArray, List.set_cons_zero, List.set_cons_succ]
                        refine wpAnyH_take (i := 8) (oi := ?p8d1) (v := ?v8d1) ?o8d1 (by kernel_rfl) (by kernel_rfl) (by kernel_rfl) ?q8d1 ?y8d1 hHeld ?r8d1
                        case o8d1 => simp only [List.getElem?_toArray, List.getElem?_cons_succ, List.getElem?_cons_zero]; rfl
                        case q8d1 => exact fun _ _ _ h => h
                        case y8d1 => (refine Or.inl ⟨rfl, ?_⟩; intro wq hq; obtain ⟨⟨z0, z1, z2⟩, ⟨y0, y1, y2⟩⟩ := HS.out wq hq; go_simp; try with_reducible rfl)
                        simp only [Act.put, List.setIfInBounds_toArray, List.set_cons_zero, List.set_cons_succ]
                        refine wpAnyH_take (i := 9) (oi := ?p9d1) (v := ?v9d1) ?o9d1 (by kernel_rfl) (by kernel_rfl) (by kernel_rfl) ?q9d1 ?y9d1 hHeld ?r9d1
                        case o9d1 => simp only [List.getElem?_toArray, List.getElem?_cons_succ, List.getElem?_cons_zero]; rfl
                        case q9d1 => exact fun _ _ _ h => h
                        case y9d1 => (refine Or.inl ⟨rfl, ?_⟩; intro wq hq; obtain ⟨⟨z0, z1, z2⟩, ⟨y0, y1, y2⟩⟩ := HS.out wq hq; go_simp; try with_reducible rfl)
                        simp only [Act.put, List.setIfInBounds_toArray, List.set_cons_zero, List.set_cons_succ]
                        refine wpAnyH_take (i := 10) (oi := ?p10d1) (v := ?v10d1) ?o10d1 (by kernel_rfl) (by kernel_rfl) (by kernel_rfl) ?q10d1 ?y10d1 hHeld ?r10d1
                        case o10d1 => simp only [List.getElem?_toArray, List.getElem?_cons_succ, List.getElem?_cons_zero]; rfl
                        case q10d1 => exact fun _ _ _ h => h
                        case y10d1 => (refine Or.inl ⟨rfl, ?_⟩; intro wq hq; obtain ⟨⟨z0, z1, z2⟩, ⟨y0, y1, y2⟩⟩ := HS.out wq hq; go_simp; try with_reducible rfl)
                        simp only [Act.put, List.setIfInBounds_toArray, List.set_cons_zero, List.set_cons_succ]
                        refine wpAnyH_take (i := 11) (oi := ?p11d1) (v := ?v11d1) ?o11d1 (by kernel_rfl) (by kernel_rfl) (by kernel_rfl) ?q11d1 ?y11d1 hHeld ?r11d1
                        case o11d1 => simp only [List.getElem?_toArray, List.getElem?_cons_succ, List.getElem?_cons_zero]; rfl
                        case q11d1 => exact fun _ _ _ h => h
                        case y11d1 => (refine Or.inl ⟨rfl, ?_⟩; intro wq hq; obtain ⟨⟨z0, z1, z2⟩, ⟨y0, y1, y2⟩⟩ := HS.out wq hq; go_simp; try with_reducible rfl)
                        simp only [Act.put, List.setIfInBounds_toArray, List.set_cons_zero, List.set_cons_succ]
                        refine wpAnyH_take (i := 12) (oi := ?p12d1) (v := undef) ?o12d1 (by kernel_rfl) (by kernel_rfl) (by kernel_rfl) ?q12d1 ?y12d1 hHeld ?r12d1
                        case o12d1 => simp only [List.getElem?_toArray, List.getElem?_cons_succ, List.getElem?_cons_zero]; rfl
                        case q12d1 => exact fun _ _ _ h => h
                        case y12d1 => exact Or.inr ⟨rfl, rfl⟩
                        simp only [Act.put, List.setIfInBounds_toArray, List.set_cons_zero, List.set_cons_succ]
                        refine wpAnyH_take (i := 13) (oi := ?p13d1) (v := undef) ?o13d1 (by kernel_rfl) (by kernel_rfl) (by kernel_rfl) ?q13d1 ?y13d1 hHeld ?r13d1
                        case o13d1 => simp only [List.getElem?_toArray, List.getElem?_cons_succ, List.getElem?_cons_zero]; rfl
                        case q13d1 => exact fun _ _ _ h => h
                        case y13d1 => exact Or.inr ⟨rfl, rfl⟩
                        simp only [Act.put, List.setIfInBounds_toArray, List.set_cons_zero, List.set_cons_succ]
                        refine wpAnyH_take (i := 14) (oi := ?p14d1) (v := undef) ?o14d1 (by kernel_rfl) (by kernel_rfl) (by kernel_rfl) ?q14d1 ?y14d1 hHeld ?r14d1
                        case o14d1 => simp only [List.getElem?_toArray, List.getElem?_cons_succ, List.getElem?_cons_zero]; rfl
                        case q14d1 => exact fun _ _ _ h => h
                        case y14d1 => exact Or.inr ⟨rfl, rfl⟩
                        simp only [Act.put, List.setIfInBounds_toArray, List.set_cons_zero, List.set_cons_succ]
                        refine wpAnyH_take (i := 15) (oi := ?p15d1) (v := undef) ?o15d1 (by kernel_rfl) (by kernel_rfl) (by kernel_rfl) ?q15d1 ?y15d1 hHeld ?r15d1
                        case o15d1 => simp only [List.getElem?_toArray, List.getElem?_cons_succ, List.getElem?_cons_zero]; rfl
                        case q15d1 => exact fun _ _ _ h => h
                        case y15d1 => exact Or.inr ⟨rfl, rfl⟩
                        simp only [Act.put, List.setIfInBounds_toArray, List.set_cons_zero, List.set_cons_succ]
                        refine wpAnyH_take (i := 16) (oi := ?p16d1) (v := undef) ?o16d1 (by kernel_rfl) (by kernel_rfl) (by kernel_rfl) ?q16d1 ?y16d1 hHeld ?r16d1
                        case o16d1 => simp only [List.getElem?_toArray, List.getElem?_cons_succ, List.getElem?_cons_zero]; rfl
                        case q16d1 => exact fun _ _ _ h => h
                        case y16d1 => exact Or.inr ⟨rfl, rfl⟩
                        simp only [Act.put, List.setIfInBounds_toArray, List.set_cons_zero, List.set_cons_succ]
                        refine wpAnyH_take (i := 17) (oi := ?p17d1) (v := undef) ?o17d1 (by kernel_rfl) (by kernel_rfl) (by kernel_rfl) ?q17d1 ?y17d1 hHeld ?r17d1
                        case o17d1 => simp only [List.getElem?_toArray, List.getElem?_cons_succ, List.getElem?_cons_zero]; rfl
                        case q17d1 => exact fun _ _ _ h => h
                        case y17d1 => exact Or.inr ⟨rfl, rfl⟩
                        simp only [Act.put, List.setIfInBounds_toArray, List.set_cons_zero, List.set_cons_succ]
                        refine wpAnyH_take (i := 18) (oi := ?p18d1) (v := undef) ?o18d1 (by kernel_rfl) (by kernel_rfl) (by kernel_rfl) ?q18d1 ?y18d1 hHeld ?r18d1
                        case o18d1 => simp only [List.getElem?_toArray, List.getElem?_cons_succ, List.getElem?_cons_zero]; rfl
                        case q18d1 => exact fun _ _ _ h => h
                        case y18d1 => exact Or.inr ⟨rfl, rfl⟩
                        simp only [Act.put, List.setIfInBounds_toArray, List.set_cons_zero, List.set_cons_succ]
                        refine wpAnyH_take (i := 19) (oi := ?p19d1) (v := undef) ?o19d1 (by kernel_rfl) (by kernel_rfl) (by kernel_rfl) ?q19d1 ?y19d1 hHeld ?r19d1
                        case o19d1 => simp only [List.getElem?_toArray, List.getElem?_cons_succ, List.getElem?_cons_zero]; rfl
                        case q19d1 => exact fun _ _ _ h => h
                        case y19d1 => exact Or.inr ⟨rfl, rfl⟩
                        simp only [Act.put, List.setIfInBounds_toArray, List.set_cons_zero, List.set_cons_succ]
                        refine wpAnyH_take (i := 20) (oi := ?p20d1) (v := undef) ?o20d1 (by kernel_rfl) (by kernel_rfl) (by kernel_rfl) ?q20d1 ?y20d1 hHeld ?r20d1
                        case o20d1 => simp only [List.getElem?_toArray, List.getElem?_cons_succ, List.getElem?_cons_zero]; rfl
                        case q20d1 => exact fun _ _ _ h => h
                        case y20d1 => exact Or.inr ⟨rfl, rfl⟩
                        simp only [Act.put, List.setIfInBounds_toArray, List.set_cons_zero, List.set_cons_succ]
                        refine wpAnyH_take (i := 21) (oi := ?p21d1) (v := undef) ?o21d1 (by kernel_rfl) (by kernel_rfl) (by kernel_rfl) ?q21d1 ?y21d1 hHeld ?r21d1
                        case o21d1 => simp only [List.getElem?_toArray, List.getElem?_cons_succ, List.getElem?_cons_zero]; rfl
                        case q21d1 => exact fun _ _ _ h => h
                        case y21d1 => exact Or.inr ⟨rfl, rfl⟩
                        simp only [Act.put, List.setIfInBounds_toArray, List.set_cons_zero, List.set_cons_succ]
                        refine wpAnyH_take (i := 22) (oi := ?p22d1) (v := undef) ?o22d1 (by kernel_rfl) (by kernel_rfl) (by kernel_rfl) ?q22d1 ?y22d1 hHeld ?r22d1
                        case o22d1 => simp only [List.getElem?_toArray, List.getElem?_cons_succ, List.getElem?_cons_zero]; rfl
                        case q22d1 => exact fun _ _ _ h => h
                        case y22d1 => exact Or.inr ⟨rfl, rfl⟩
                        simp only [Act.put, List.setIfInBounds_toArray, List.set_cons_zero, List.set_cons_succ]
                        refine wpAnyH_take (i := 23) (oi := ?p23d1) (v := undef) ?o23d1 (by kernel_rfl) (by kernel_rfl) (by kernel_rfl) ?q23d1 ?y23d1 hHeld ?r23d1
                        case o23d1 => simp only [List.getElem?_toArray, List.getElem?_cons_succ, List.getElem?_cons_zero]; rfl
                        case q23d1 => exact fun _ _ _ h => h
                        case y23d1 => exact Or.inr ⟨rfl, rfl⟩
                        simp only [Act.put, List.setIfInBounds_toArray, List.set_cons_zero, List.set_cons_succ]
                        refine wpAnyH_take (i := 24) (oi := ?p24d1) (v := ?v24d1) ?o24d1 (by kernel_rfl) (by kernel_rfl) (by kernel_rfl) ?q24d1 ?y24d1 hHeld ?r24d1
                        case o24d1 => simp only [List.getElem?_toArray, List.getElem?_cons_succ, List.getElem?_cons_zero]; rfl
                        case q24d1 => exact fun _ _ _ h => h
                        case y24d1 => (refine Or.inl ⟨rfl, ?_⟩; intro wq hq; obtain ⟨⟨z0, z1, z2⟩, ⟨y0, y1, y2⟩⟩ := HS.out wq hq; go_simp; try with_reducible rfl)
                        simp only [Act.put, List.setIfInBounds_toArray, List.set_cons_zero, List.set_cons_succ]
                        refine wpAnyH_done (by kernel_rfl) ?_ _
                        have HBF := Hid_of (bel_up HBR.out hHeld (Nat.le_refl _))
                        clear hHeld
                        go_wp2
                        go_roundw
                        case rel => exact ⟨r + 1, by omega, by go_num, HBF.out⟩
                        case measure => simp [intOf]; omega
                    · obtain rfl : r = a2.l.length := by omega
                      have HBR := Hid_of hbr
                      clear hbr
                      go_wp2
                      go_roundw
                      case rel => exact ⟨q + 1, by omega, by go_num, HBR.out⟩
                      case measure => simp [intOf]; omega
                · obtain rfl : q = s.l.length := by omega
                  have HS8 := Hid_of (HS7.out.keep hbq)
                  have HPM : Hid (∀ W, Below wr.heap.size wr W → Calls Try.prog 17 #[.pointer (some ⟨b, 0, none⟩)] W fun e w' => e = .returned (bV a2.p) ∧ Below W.heap.size W w') := fun W hW => (HS8.out.keep hW).promised
                  have HW8 := Hid_of (HW7.out.up hbq).row
                  have HS : Hid (∀ w', Below wr.heap.size wr w' → (w'.cell? ⟨bw, 0, none⟩ = some (.int .i64 s.p.i) ∧ w'.cell? ⟨bw, 1, none⟩ = some (.int .i64 s.p.t))) := fun w' hb => (row2 (bel_row HW8.out hb)).1
                  have hcm := fun W => rcmp_any a2.p s.p W
                  have hcv : ¬ M.cmpE a2.p s.p < 0 := by have := HR5.out.p; omega
                  generalize M.cmpE a2.p s.p = cv at *
                  have dcv : decide (cv < 0) = false := decide_eq_false hcv
                  clear hbq hcv HX7 HN7 HW7 HS7
                  go_wp2_with fail
                  refine wp_region_held_drew (S := fun wq => Below (wr).heap.size (wr) wq) (by kernel_rfl) (Below.drew (Below.refl _ _)) (fun hHeld => ?_)
                  refine wpAnyH_take (i := 0) (oi := ?p0d2) (v := ?v0d2) ?o0d2 (by kernel_rfl) (by kernel_rfl) (by kernel_rfl) ?q0d2 ?y0d2 hHeld ?r0d2
                  case o0d2 => simp only [List.getElem?_toArray, List.getElem?_cons_zero]; rfl
                  case q0d2 => exact fun _ _ _ h => h
                  case y0d2 => (refine Or.inl ⟨rfl, ?_⟩; intro wq hq; obtain ⟨y0, y1⟩ := HS.out wq hq; go_simp; try with_reducible rfl)
                  simp only [Act.put, List.setIfInBounds_toArray, List.set_cons_zero, List.set_cons_succ]
                  refine wpAnyH_take (i := 2) (oi := ?p2d2) (v := ?v2d2) ?o2d2 (by kernel_rfl) (by kernel_rfl) (by kernel_rfl) ?q2d2 ?y2d2 hHeld ?r2d2
                  case o2d2 => simp only [List.getElem?_toArray, List.getElem?_cons_succ, List.getElem?_cons_zero]; rfl
                  case q2d2 => exact fun _ _ _ h => h
                  case y2d2 => (refine Or.inl ⟨rfl, ?_⟩; intro wq hq; obtain ⟨y0, y1⟩ := HS.out wq hq; go_simp; try with_reducible rfl)
                  simp only [Act.put, List.setIfInBounds_toArray, List.set_cons_zero, List.set_cons_succ]
                  refine wpAnyH_ready (rs := [1]) (by kernel_rfl) (by simp) ?_
                  refine AllReadyH.cons (o := ?p1d2) ?o1d2 ?s1d2 AllReadyH.nil
                  case o1d2 => simp only [List.getElem?_toArray, List.getElem?_cons_succ, List.getElem?_cons_zero]; rfl
                  intro K hK
                  go_simp
                  refine (HPM.out _ hHeld).mono ?_
                  rintro e v1 ⟨rfl, hb⟩
                  have B1 : Below wr.heap.size wr v1 := hHeld.trans (hb.mono hHeld.size)
                  clear hb
                  refine hK.out _ _ B1 (fun hHeld => ?_)
                  clear hK K
                  refine wpAnyH_ready (rs := [3]) (by kernel_rfl) (by simp) ?_
                  refine AllReadyH.cons (o := ?p3d2) ?o3d2 ?s3d2 AllReadyH.nil
                  case o3d2 => simp only [List.getElem?_toArray, List.getElem?_cons_succ, List.getElem?_cons_zero]; rfl
                  intro K hK
                  go_simp
                  refine (hcm _).mono ?_
                  rintro e v3 ⟨rfl, hb⟩
                  have B3 : Below wr.heap.size wr v3 := hHeld.trans (hb.mono hHeld.size)
                  clear hb
                  refine hK.out _ _ B3 (fun hHeld => ?_)
                  clear hK K
                  refine wpAnyH_take (i := 4) (oi := ?p4d2) (v := ?v4d2) ?o4d2 (by kernel_rfl) (by kernel_rfl) (by kernel_rfl) ?q4d2 ?y4d2 hHeld ?r4d2
                  case o4d2 => simp only [List.getElem?_toArray, List.getElem?_cons_succ, List.getElem?_cons_zero]; rfl
                  case q4d2 => exact fun _ _ _ h => h
                  case y4d2 => (refine Or.inl ⟨rfl, ?_⟩; intro wq hq; obtain ⟨y0, y1⟩ := HS.out wq hq; go_simp; try with_reducible rfl)
                  simp only [Act.put, List.setIfInBounds_toArray, List.set_cons_zero, List.set_cons_succ]
                  refine wpAnyH_done (by kernel_rfl) ?_ _
                  have HSF := Hid_of (HS8.out.keep hHeld)
                  clear hHeld HPM HS
                  go_wp2
                  go_roundw
                  case rel => exact ⟨k + 1, F5, a2, by omega, by go_num, HSF.out⟩
                  case measure => simp [intOf]; omega
      · obtain rfl : k = l.length := by omega
        have HB := Hid_of hS.bel
        clear hS
        go_wp2_with fail
        refine (awake_any _).mono ?_
        rintro e w8 ⟨rfl, b8⟩
        have HB8 := Hid_of (bel_up HB.out b8 (Nat.le_refl _))
        clear b8
        go_wp2
        go_ret
        exact ⟨rfl, HB8.out⟩
end Go.Proofs.Ytbbadfebajpeaaa
