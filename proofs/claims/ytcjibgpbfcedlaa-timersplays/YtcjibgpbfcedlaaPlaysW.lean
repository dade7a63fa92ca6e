/-
  Anything done to timers.
-/
import Derived.Test.YtcjibgpbfcedlaaW
import Derived.Deep.RegionHeld3
namespace Go.Proofs.Ytcjibgpbfcedlaa
open Go.RowKit
set_option linter.unusedVariables false
open M (E)

set_option maxRecDepth 100000 in
set_option maxHeartbeats 16000000 in
theorem plays_walk (a : Option Addr) (cap : Nat) (l : List Dd) (w : World) (hl : l.length ≤ maxLen) (hd : Dds w a l) :
    Calls Try.prog 3 #[.slice a l.length cap] w fun e w' => e = .returned (.bool true) ∧ Below w.heap.size w w' := by
  unfold maxLen at hl
  by_cases h150 : 150 < l.length
  · have hdec : decide ((150 : Int) < (l.length : Int)) = true := by simp; omega
    clear hd
    go_enter Try.func3, Try.ntmps3
    go_wp2_with fail
    refine (awake_any _).mono ?_
    rintro x w1 ⟨rfl, B1⟩
    go_wp2
    go_ret
    exact ⟨rfl, B1⟩
  · have hdec : decide ((150 : Int) < (l.length : Int)) = false := by simp; omega
    have HD := Hid_of hd
    clear hd
    go_enter Try.func3, Try.ntmps3
    go_wp2_with fail
    refine (newT w).mono ?_
    rintro x w1 ⟨b, rfl, S1⟩
    have HS1 := Hid_of (PX.nil S1)
    clear S1
    go_wp2_with fail
    go_loopw [4, 5] (fun x i wr => ∃ (k : Nat) (P : List E) (v : Value) (ax : Option Addr) (cx : Nat), k ≤ l.length ∧ x = .slice ax P.length cx ∧ i = .int .i64 k ∧ Hid (PX w wr b v P ax)) (fun _ i _ => l.length - (intOf i).toNat)
    case atStart => exact ⟨0, [], _, none, 0, by omega, rfl, rfl, HS1⟩
    case round =>
      obtain ⟨k, P, v, ax, cx, hk, rfl, rfl, HX⟩ := hrel
      clear HS1
      have hn := HX.out.ts.x.len
      by_cases hlt : k < l.length
      · obtain ⟨bb, off, rfl, c0, c1, c2⟩ := (HD.out.keep HX.out.ts.bel) k hlt
        have HB1 : Hid (Below wr.heap.size wr (wr.alloc (.cells #[.int .i64 l[k].k, .int .i64 l[k].a, .int .i64 l[k].n] 28))) := bel1 wr _
        have HR1 : Hid ((wr.alloc (.cells #[.int .i64 l[k].k, .int .i64 l[k].a, .int .i64 l[k].n] 28)).heap[wr.heap.size]? = some (.cells #[.int .i64 l[k].k, .int .i64 l[k].a, .int .i64 l[k].n] 28 (0, 0)) ∧ wr.heap.size < (wr.alloc (.cells #[.int .i64 l[k].k, .int .i64 l[k].a, .int .i64 l[k].n] 28)).heap.size) := ⟨heap_alloc_last _ _, by simp⟩
        generalize l[k].k = dk at *
        generalize l[k].a = da at *
        generalize l[k].n = dn at *
        obtain ⟨W1, HW1⟩ : ∃ W1, Hid (wr.alloc (.cells #[.int .i64 dk, .int .i64 da, .int .i64 dn] 28) = W1) := ⟨_, rfl⟩
        rw [HW1.out] at HB1 HR1
        have HX1 := Hid_of (HX.out.keep HB1.out)
        have HBOX : Hid (∀ wq, Below W1.heap.size W1 wq → wq.cell? ⟨wr.heap.size, 0, none⟩ = some (.int .i64 dk) ∧ wq.cell? ⟨wr.heap.size, 1, none⟩ = some (.int .i64 da) ∧ wq.cell? ⟨wr.heap.size, 2, none⟩ = some (.int .i64 dn)) := fun wq hq => by
          have h := (hq.block _ HR1.out.2).trans HR1.out.1
          exact ⟨by rw [cell_of_row wq _ 0 _ _ _ h]; rfl, by rw [cell_of_row wq _ 1 _ _ _ h]; rfl, by rw [cell_of_row wq _ 2 _ _ _ h]; rfl⟩
        clear HX HR1 HB1 HD
        by_cases hk0 : dk = 0
        · have hk0' : (dk == 0) = true := by simpa using hk0
          have hc := rset_any ax cx P da dn W1 hn HX1.out.y.at'
          clear hk0
          go_wp2_with fail
          rw [HW1.out]
          clear HW1 c0 c1 c2
          refine hc.mono ?_
          rintro e w2 ⟨y, rfl, hres, B2⟩
          obtain ⟨ay, cy, rfl, hY⟩ := HX1.out.res B2 hres
          have hc2 := (HX1.out.ts.keep B2).setC da dn
          obtain ⟨d0, d1, d2⟩ := HBOX.out w2 B2
          have HY := Hid_of hY
          clear hres hY B2 hc HX1 HBOX
          go_wp2_with fail
          refine hc2.mono ?_
          rintro e w3 ⟨v3, rfl, T3, C3⟩
          have HP : Hid (PX w w3 b v3 (M.setL P da dn) ay) := ⟨T3, HY.out.step C3⟩
          clear HY T3 C3 hc2 d0 d1 d2
          have hn3 := HP.out.ts.x.len
          generalize M.setE P da dn = se at *
          generalize M.setL P da dn = P3 at *
          have hnx := HP.out.ts.next
          by_cases hpos : 0 < P3.length
          · obtain ⟨hg1, hg2, hg3⟩ := hd_get P3 hpos
            rw [hg3, hdV_eq] at hnx
            have hpi : (0 : Int) < (P3.length : Int) := by omega
            have hAT0 : ∀ wq, Below w3.heap.size w3 wq → ∃ bx ox, ay = some (⟨bx, ox, none⟩ : Addr) ∧ wq.cell? ⟨bx, ox, none⟩ = some (.int .i64 (hdI P3)) ∧ wq.cell? ⟨bx, ox + 1, none⟩ = some (.int .i64 (hdT P3)) := fun wq hq => by
              obtain ⟨bx, ox, e, h1, h2⟩ := (HP.out.y.at'.keep hq) 0 hpos
              rw [Nat.zero_mul, Nat.add_zero] at h1 h2
              exact ⟨bx, ox, e, by rw [← hg1]; exact h1, by rw [← hg2]; exact h2⟩
            obtain ⟨bx, ox, rfl, _, _⟩ := hAT0 w3 (Below.refl _ _)
            have HAT := Hid_of hAT0
            clear hAT0 hg1 hg2 hg3
            go_wp2_with fail
            refine hnx.mono ?_
            rintro e w20 ⟨rfl, B20, _⟩
            have HBW : Hid (Below w3.heap.size w3 (w20.alloc (.cells #[.int .i64 (hdI P3), .int .i64 (hdT P3)] 42))) := bel_up B20 (bel1 w20 _) (Nat.le_refl _)
            have HRW : Hid ((w20.alloc (.cells #[.int .i64 (hdI P3), .int .i64 (hdT P3)] 42)).heap[w20.heap.size]? = some (.cells #[.int .i64 (hdI P3), .int .i64 (hdT P3)] 42 (0, 0)) ∧ w20.heap.size < (w20.alloc (.cells #[.int .i64 (hdI P3), .int .i64 (hdT P3)] 42)).heap.size) := ⟨heap_alloc_last _ _, by simp⟩
            obtain ⟨W4, HW4⟩ : ∃ W4, Hid (w20.alloc (.cells #[.int .i64 (hdI P3), .int .i64 (hdT P3)] 42) = W4) := ⟨_, rfl⟩
            rw [HW4.out] at HBW HRW
            have HS : Hid (∀ wq, Below W4.heap.size W4 wq → (wq.cell? ⟨w20.heap.size, 0, none⟩ = some (.int .i64 (hdI P3)) ∧ wq.cell? ⟨w20.heap.size, 1, none⟩ = some (.int .i64 (hdT P3))) ∧ (wq.cell? ⟨bx, ox, none⟩ = some (.int .i64 (hdI P3)) ∧ wq.cell? ⟨bx, ox + 1, none⟩ = some (.int .i64 (hdT P3)))) := fun wq hq => by
              obtain ⟨bx', ox', e, h1, h2⟩ := HAT.out wq (bel_up HBW.out hq (Nat.le_refl _))
              cases e
              exact ⟨(row2 ((hq.block _ HRW.out.2).trans HRW.out.1)).1, h1, h2⟩
            have HM : Hid (∀ wq, Below W4.heap.size W4 wq → PX w wq b v3 P3 (some ⟨bx, ox, none⟩)) := fun wq hq => HP.out.keep (bel_up HBW.out hq (Nat.le_refl _))
            clear B20 hnx HP HAT HRW HBW
            generalize hdI P3 = hi at *
            generalize hdT P3 = ht at *
            go_wp2_with fail
            rw [HW4.out]
            clear HW4
            refine wp_region_held_drew (S := fun wq => Below (W4).heap.size (W4) wq) (by kernel_rfl) (Below.drew (Below.refl _ _)) (fun hHeld => ?_)
            refine wpAnyH_take (i := 0) (oi := ?p0px) (v := ?v0px) ?o0px (by kernel_rfl) (by kernel_rfl) (by kernel_rfl) ?q0px ?y0px hHeld ?r0px
            case o0px => simp only [List.getElem?_toArray, List.getElem?_cons_zero]; rfl
            case q0px => exact fun _ _ _ h => h
            case y0px => (refine Or.inl ⟨rfl, ?_⟩; intro wq hq; obtain ⟨⟨a0, a1⟩, b0, b1⟩ := HS.out wq hq; go_simp; try with_reducible rfl)
            simp only [Act.put, List.setIfInBounds_toArray, List.set_cons_zero, List.set_cons_succ]
            refine wpAnyH_take (i := 1) (oi := ?p1px) (v := ?v1px) ?o1px (by kernel_rfl) (by kernel_rfl) (by kernel_rfl) ?q1px ?y1px hHeld ?r1px
            case o1px => simp only [List.getElem?_toArray, List.getElem?_cons_succ, List.getElem?_cons_zero]; rfl
            case q1px => exact fun _ _ _ h => h
            case y1px => (refine Or.inl ⟨rfl, ?_⟩; intro wq hq; obtain ⟨⟨a0, a1⟩, b0, b1⟩ := HS.out wq hq; go_simp; try with_reducible rfl)
            simp only [Act.put, List.setIfInBounds_toArray, List.set_cons_zero, List.set_cons_succ]
            refine wpAnyH_take (i := 2) (oi := ?p2px) (v := ?v2px) ?o2px (by kernel_rfl) (by kernel_rfl) (by kernel_rfl) ?q2px ?y2px hHeld ?r2px
            case o2px => simp only [List.getElem?_toArray, List.getElem?_cons_succ, List.getElem?_cons_zero]; rfl
            case q2px => exact fun _ _ _ h => h
            case y2px => (refine Or.inl ⟨rfl, ?_⟩; intro wq hq; obtain ⟨⟨a0, a1⟩, b0, b1⟩ := HS.out wq hq; go_simp; try with_reducible rfl)
            simp only [Act.put, List.setIfInBounds_toArray, List.set_cons_zero, List.set_cons_succ]
            refine wpAnyH_take (i := 3) (oi := ?p3px) (v := ?v3px) ?o3px (by kernel_rfl) (by kernel_rfl) (by kernel_rfl) ?q3px ?y3px hHeld ?r3px
            case o3px => simp only [List.getElem?_toArray, List.getElem?_cons_succ, List.getElem?_cons_zero]; rfl
            case q3px => exact fun _ _ _ h => h
            case y3px => (refine Or.inl ⟨rfl, ?_⟩; intro wq hq; obtain ⟨⟨a0, a1⟩, b0, b1⟩ := HS.out wq hq; go_simp; try with_reducible rfl)
            simp only [Act.put, List.setIfInBounds_toArray, List.set_cons_zero, List.set_cons_succ]
            refine wpAnyH_take (i := 4) (oi := ?p4px) (v := ?v4px) ?o4px (by kernel_rfl) (by kernel_rfl) (by kernel_rfl) ?q4px ?y4px hHeld ?r4px
            case o4px => simp only [List.getElem?_toArray, List.getElem?_cons_succ, List.getElem?_cons_zero]; rfl
            case q4px => exact fun _ _ _ h => h
            case y4px => (refine Or.inl ⟨rfl, ?_⟩; intro wq hq; obtain ⟨⟨a0, a1⟩, b0, b1⟩ := HS.out wq hq; go_simp; try with_reducible rfl)
            simp only [Act.put, List.setIfInBounds_toArray, List.set_cons_zero, List.set_cons_succ]
            refine wpAnyH_take (i := 5) (oi := ?p5px) (v := ?v5px) ?o5px (by kernel_rfl) (by kernel_rfl) (by kernel_rfl) ?q5px ?y5px hHeld ?r5px
            case o5px => simp only [List.getElem?_toArray, List.getElem?_cons_succ, List.getElem?_cons_zero]; rfl
            case q5px => exact fun _ _ _ h => h
            case y5px => (refine Or.inl ⟨rfl, ?_⟩; intro wq hq; obtain ⟨⟨a0, a1⟩, b0, b1⟩ := HS.out wq hq; go_simp; try with_reducible rfl)
            simp only [Act.put, List.setIfInBounds_toArray, List.set_cons_zero, List.set_cons_succ]
            refine wpAnyH_take (i := 6) (oi := ?p6px) (v := ?v6px) ?o6px (by kernel_rfl) (by kernel_rfl) (by kernel_rfl) ?q6px ?y6px hHeld ?r6px
            case o6px => simp only [List.getElem?_toArray, List.getElem?_cons_succ, List.getElem?_cons_zero]; rfl
            case q6px => exact fun _ _ _ h => h
            case y6px => (refine Or.inl ⟨rfl, ?_⟩; intro wq hq; obtain ⟨⟨a0, a1⟩, b0, b1⟩ := HS.out wq hq; go_simp; try with_reducible rfl)
            simp only [Act.put, List.setIfInBounds_toArray, List.set_cons_zero, List.set_cons_succ]
            refine wpAnyH_take (i := 7) (oi := ?p7px) (v := ?v7px) ?o7px (by kernel_rfl) (by kernel_rfl) (by kernel_rfl) ?q7px ?y7px hHeld ?r7px
            case o7px => simp only [List.getElem?_toArray, List.getElem?_cons_succ, List.getElem?_cons_zero]; rfl
            case q7px => exact fun _ _ _ h => h
            case y7px => (refine Or.inl ⟨rfl, ?_⟩; intro wq hq; obtain ⟨⟨a0, a1⟩, b0, b1⟩ := HS.out wq hq; go_simp; try with_reducible rfl)
            simp only [Act.put, List.setIfInBounds_toArray, List.set_cons_zero, List.set_cons_succ]
            refine wpAnyH_take (i := 8) (oi := ?p8px) (v := ?v8px) ?o8px (by kernel_rfl) (by kernel_rfl) (by kernel_rfl) ?q8px ?y8px hHeld ?r8px
            case o8px => simp only [List.getElem?_toArray, List.getElem?_cons_succ, List.getElem?_cons_zero]; rfl
            case q8px => exact fun _ _ _ h => h
            case y8px => (refine Or.inl ⟨rfl, ?_⟩; intro wq hq; obtain ⟨⟨a0, a1⟩, b0, b1⟩ := HS.out wq hq; go_simp; try with_reducible rfl)
            simp only [Act.put, List.setIfInBounds_toArray, List.set_cons_zero, List.set_cons_succ]
            refine wpAnyH_take (i := 9) (oi := ?p9px) (v := ?v9px) ?o9px (by kernel_rfl) (by kernel_rfl) (by kernel_rfl) ?q9px ?y9px hHeld ?r9px
            case o9px => simp only [List.getElem?_toArray, List.getElem?_cons_succ, List.getElem?_cons_zero]; rfl
            case q9px => exact fun _ _ _ h => h
            case y9px => (refine Or.inl ⟨rfl, ?_⟩; intro wq hq; obtain ⟨⟨a0, a1⟩, b0, b1⟩ := HS.out wq hq; go_simp; try with_reducible rfl)
            simp only [Act.put, List.setIfInBounds_toArray, List.set_cons_zero, List.set_cons_succ]
            refine wpAnyH_take (i := 10) (oi := ?p10px) (v := ?v10px) ?o10px (by kernel_rfl) (by kernel_rfl) (by kernel_rfl) ?q10px ?y10px hHeld ?r10px
            case o10px => simp only [List.getElem?_toArray, List.getElem?_cons_succ, List.getElem?_cons_zero]; rfl
            case q10px => exact fun _ _ _ h => h
            case y10px => (refine Or.inl ⟨rfl, ?_⟩; intro wq hq; obtain ⟨⟨a0, a1⟩, b0, b1⟩ := HS.out wq hq; go_simp; try with_reducible rfl)
            simp only [Act.put, List.setIfInBounds_toArray, List.set_cons_zero, List.set_cons_succ]
            refine wpAnyH_take (i := 11) (oi := ?p11px) (v := ?v11px) ?o11px (by kernel_rfl) (by kernel_rfl) (by kernel_rfl) ?q11px ?y11px hHeld ?r11px
            case o11px => simp only [List.getElem?_toArray, List.getElem?_cons_succ, List.getElem?_cons_zero]; rfl
            case q11px => exact fun _ _ _ h => h
            case y11px => (refine Or.inl ⟨rfl, ?_⟩; intro wq hq; obtain ⟨⟨a0, a1⟩, b0, b1⟩ := HS.out wq hq; go_simp; try with_reducible rfl)
            simp only [Act.put, List.setIfInBounds_toArray, List.set_cons_zero, List.set_cons_succ]
            refine wpAnyH_take (i := 12) (oi := ?p12px) (v := ?v12px) ?o12px (by kernel_rfl) (by kernel_rfl) (by kernel_rfl) ?q12px ?y12px hHeld ?r12px
            case o12px => simp only [List.getElem?_toArray, List.getElem?_cons_succ, List.getElem?_cons_zero]; rfl
            case q12px => exact fun _ _ _ h => h
            case y12px => (refine Or.inl ⟨rfl, ?_⟩; intro wq hq; obtain ⟨⟨a0, a1⟩, b0, b1⟩ := HS.out wq hq; go_simp; try with_reducible rfl)
            simp only [Act.put, List.setIfInBounds_toArray, List.set_cons_zero, List.set_cons_succ]
            refine wpAnyH_take (i := 13) (oi := ?p13px) (v := ?v13px) ?o13px (by kernel_rfl) (by kernel_rfl) (by kernel_rfl) ?q13px ?y13px hHeld ?r13px
            case o13px => simp only [List.getElem?_toArray, List.getElem?_cons_succ, List.getElem?_cons_zero]; rfl
            case q13px => exact fun _ _ _ h => h
            case y13px => (refine Or.inl ⟨rfl, ?_⟩; intro wq hq; obtain ⟨⟨a0, a1⟩, b0, b1⟩ := HS.out wq hq; go_simp; try with_reducible rfl)
            simp only [Act.put, List.setIfInBounds_toArray, List.set_cons_zero, List.set_cons_succ]
            refine wpAnyH_take (i := 14) (oi := ?p14px) (v := ?v14px) ?o14px (by kernel_rfl) (by kernel_rfl) (by kernel_rfl) ?q14px ?y14px hHeld ?r14px
            case o14px => simp only [List.getElem?_toArray, List.getElem?_cons_succ, List.getElem?_cons_zero]; rfl
            case q14px => exact fun _ _ _ h => h
            case y14px => (refine Or.inl ⟨rfl, ?_⟩; intro wq hq; obtain ⟨⟨a0, a1⟩, b0, b1⟩ := HS.out wq hq; go_simp; try with_reducible rfl)
            simp only [Act.put, List.setIfInBounds_toArray, List.set_cons_zero, List.set_cons_succ]
            refine wpAnyH_take (i := 15) (oi := ?p15px) (v := ?v15px) ?o15px (by kernel_rfl) (by kernel_rfl) (by kernel_rfl) ?q15px ?y15px hHeld ?r15px
            case o15px => simp only [List.getElem?_toArray, List.getElem?_cons_succ, List.getElem?_cons_zero]; rfl
            case q15px => exact fun _ _ _ h => h
            case y15px => (refine Or.inl ⟨rfl, ?_⟩; intro wq hq; obtain ⟨⟨a0, a1⟩, b0, b1⟩ := HS.out wq hq; go_simp; try with_reducible rfl)
            simp only [Act.put, List.setIfInBounds_toArray, List.set_cons_zero, List.set_cons_succ]
            refine wpAnyH_take (i := 16) (oi := ?p16px) (v := ?v16px) ?o16px (by kernel_rfl) (by kernel_rfl) (by kernel_rfl) ?q16px ?y16px hHeld ?r16px
            case o16px => simp only [List.getElem?_toArray, List.getElem?_cons_succ, List.getElem?_cons_zero]; rfl
            case q16px => exact fun _ _ _ h => h
            case y16px => (refine Or.inl ⟨rfl, ?_⟩; intro wq hq; obtain ⟨⟨a0, a1⟩, b0, b1⟩ := HS.out wq hq; go_simp; try with_reducible rfl)
            simp only [Act.put, List.setIfInBounds_toArray, List.set_cons_zero, List.set_cons_succ]
            refine wpAnyH_take (i := 17) (oi := ?p17px) (v := ?v17px) ?o17px (by kernel_rfl) (by kernel_rfl) (by kernel_rfl) ?q17px ?y17px hHeld ?r17px
            case o17px => simp only [List.getElem?_toArray, List.getElem?_cons_succ, List.getElem?_cons_zero]; rfl
            case q17px => exact fun _ _ _ h => h
            case y17px => (refine Or.inl ⟨rfl, ?_⟩; intro wq hq; obtain ⟨⟨a0, a1⟩, b0, b1⟩ := HS.out wq hq; go_simp; try with_reducible rfl)
            simp only [Act.put, List.setIfInBounds_toArray, List.set_cons_zero, List.set_cons_succ]
            refine wpAnyH_take (i := 18) (oi := ?p18px) (v := ?v18px) ?o18px (by kernel_rfl) (by kernel_rfl) (by kernel_rfl) ?q18px ?y18px hHeld ?r18px
            case o18px => simp only [List.getElem?_toArray, List.getElem?_cons_succ, List.getElem?_cons_zero]; rfl
            case q18px => exact fun _ _ _ h => h
            case y18px => (refine Or.inl ⟨rfl, ?_⟩; intro wq hq; obtain ⟨⟨a0, a1⟩, b0, b1⟩ := HS.out wq hq; go_simp; try with_reducible rfl)
            simp only [Act.put, List.setIfInBounds_toArray, List.set_cons_zero, List.set_cons_succ]
            refine wpAnyH_take (i := 19) (oi := ?p19px) (v := ?v19px) ?o19px (by kernel_rfl) (by kernel_rfl) (by kernel_rfl) ?q19px ?y19px hHeld ?r19px
            case o19px => simp only [List.getElem?_toArray, List.getElem?_cons_succ, List.getElem?_cons_zero]; rfl
            case q19px => exact fun _ _ _ h => h
            case y19px => (refine Or.inl ⟨rfl, ?_⟩; intro wq hq; obtain ⟨⟨a0, a1⟩, b0, b1⟩ := HS.out wq hq; go_simp; try with_reducible rfl)
            simp only [Act.put, List.setIfInBounds_toArray, List.set_cons_zero, List.set_cons_succ]
            refine wpAnyH_take (i := 20) (oi := ?p20px) (v := ?v20px) ?o20px (by kernel_rfl) (by kernel_rfl) (by kernel_rfl) ?q20px ?y20px hHeld ?r20px
            case o20px => simp only [List.getElem?_toArray, List.getElem?_cons_succ, List.getElem?_cons_zero]; rfl
            case q20px => exact fun _ _ _ h => h
            case y20px => (refine Or.inl ⟨rfl, ?_⟩; intro wq hq; obtain ⟨⟨a0, a1⟩, b0, b1⟩ := HS.out wq hq; go_simp; try with_reducible rfl)
            simp only [Act.put, List.setIfInBounds_toArray, List.set_cons_zero, List.set_cons_succ]
            refine wpAnyH_take (i := 21) (oi := ?p21px) (v := ?v21px) ?o21px (by kernel_rfl) (by kernel_rfl) (by kernel_rfl) ?q21px ?y21px hHeld ?r21px
            case o21px => simp only [List.getElem?_toArray, List.getElem?_cons_succ, List.getElem?_cons_zero]; rfl
            case q21px => exact fun _ _ _ h => h
            case y21px => (refine Or.inl ⟨rfl, ?_⟩; intro wq hq; obtain ⟨⟨a0, a1⟩, b0, b1⟩ := HS.out wq hq; go_simp; try with_reducible rfl)
            simp only [Act.put, List.setIfInBounds_toArray, List.set_cons_zero, List.set_cons_succ]
            refine wpAnyH_take (i := 22) (oi := ?p22px) (v := ?v22px) ?o22px (by kernel_rfl) (by kernel_rfl) (by kernel_rfl) ?q22px ?y22px hHeld ?r22px
            case o22px => simp only [List.getElem?_toArray, List.getElem?_cons_succ, List.getElem?_cons_zero]; rfl
            case q22px => exact fun _ _ _ h => h
            case y22px => (refine Or.inl ⟨rfl, ?_⟩; intro wq hq; obtain ⟨⟨a0, a1⟩, b0, b1⟩ := HS.out wq hq; go_simp; try with_reducible rfl)
            simp only [Act.put, List.setIfInBounds_toArray, List.set_cons_zero, List.set_cons_succ]
            refine wpAnyH_take (i := 23) (oi := ?p23px) (v := undef) ?o23px (by kernel_rfl) (by kernel_rfl) (by kernel_rfl) ?q23px ?y23px hHeld ?r23px
            case o23px => simp only [List.getElem?_toArray, List.getElem?_cons_succ, List.getElem?_cons_zero]; rfl
            case q23px => exact fun _ _ _ h => h
            case y23px => exact Or.inr ⟨rfl, rfl⟩
            simp only [Act.put, List.setIfInBounds_toArray, List.set_cons_zero, List.set_cons_succ]
            refine wpAnyH_take (i := 24) (oi := ?p24px) (v := undef) ?o24px (by kernel_rfl) (by kernel_rfl) (by kernel_rfl) ?q24px ?y24px hHeld ?r24px
            case o24px => simp only [List.getElem?_toArray, List.getElem?_cons_succ, List.getElem?_cons_zero]; rfl
            case q24px => exact fun _ _ _ h => h
            case y24px => exact Or.inr ⟨rfl, rfl⟩
            simp only [Act.put, List.setIfInBounds_toArray, List.set_cons_zero, List.set_cons_succ]
            refine wpAnyH_take (i := 25) (oi := ?p25px) (v := undef) ?o25px (by kernel_rfl) (by kernel_rfl) (by kernel_rfl) ?q25px ?y25px hHeld ?r25px
            case o25px => simp only [List.getElem?_toArray, List.getElem?_cons_succ, List.getElem?_cons_zero]; rfl
            case q25px => exact fun _ _ _ h => h
            case y25px => exact Or.inr ⟨rfl, rfl⟩
            simp only [Act.put, List.setIfInBounds_toArray, List.set_cons_zero, List.set_cons_succ]
            refine wpAnyH_take (i := 26) (oi := ?p26px) (v := ?v26px) ?o26px (by kernel_rfl) (by kernel_rfl) (by kernel_rfl) ?q26px ?y26px hHeld ?r26px
            case o26px => simp only [List.getElem?_toArray, List.getElem?_cons_succ, List.getElem?_cons_zero]; rfl
            case q26px => exact fun _ _ _ h => h
            case y26px => (refine Or.inl ⟨rfl, ?_⟩; intro wq hq; obtain ⟨⟨a0, a1⟩, b0, b1⟩ := HS.out wq hq; go_simp; try with_reducible rfl)
            simp only [Act.put, List.setIfInBounds_toArray, List.set_cons_zero, List.set_cons_succ]
            refine wpAnyH_take (i := 27) (oi := ?p27px) (v := ?v27px) ?o27px (by kernel_rfl) (by kernel_rfl) (by kernel_rfl) ?q27px ?y27px hHeld ?r27px
            case o27px => simp only [List.getElem?_toArray, List.getElem?_cons_succ, List.getElem?_cons_zero]; rfl
            case q27px => exact fun _ _ _ h => h
            case y27px => (refine Or.inl ⟨rfl, ?_⟩; intro wq hq; obtain ⟨⟨a0, a1⟩, b0, b1⟩ := HS.out wq hq; go_simp; try with_reducible rfl)
            simp only [Act.put, List.setIfInBounds_toArray, List.set_cons_zero, List.set_cons_succ]
            refine wpAnyH_take (i := 28) (oi := ?p28px) (v := ?v28px) ?o28px (by kernel_rfl) (by kernel_rfl) (by kernel_rfl) ?q28px ?y28px hHeld ?r28px
            case o28px => simp only [List.getElem?_toArray, List.getElem?_cons_succ, List.getElem?_cons_zero]; rfl
            case q28px => exact fun _ _ _ h => h
            case y28px => (refine Or.inl ⟨rfl, ?_⟩; intro wq hq; obtain ⟨⟨a0, a1⟩, b0, b1⟩ := HS.out wq hq; go_simp; try with_reducible rfl)
            simp only [Act.put, List.setIfInBounds_toArray, List.set_cons_zero, List.set_cons_succ]
            refine wpAnyH_take (i := 29) (oi := ?p29px) (v := ?v29px) ?o29px (by kernel_rfl) (by kernel_rfl) (by kernel_rfl) ?q29px ?y29px hHeld ?r29px
            case o29px => simp only [List.getElem?_toArray, List.getElem?_cons_succ, List.getElem?_cons_zero]; rfl
            case q29px => exact fun _ _ _ h => h
            case y29px => (refine Or.inl ⟨rfl, ?_⟩; intro wq hq; obtain ⟨⟨a0, a1⟩, b0, b1⟩ := HS.out wq hq; go_simp; try with_reducible rfl)
            simp only [Act.put, List.setIfInBounds_toArray, List.set_cons_zero, List.set_cons_succ]
            refine wpAnyH_take (i := 31) (oi := ?p31px) (v := ?v31px) ?o31px (by kernel_rfl) (by kernel_rfl) (by kernel_rfl) ?q31px ?y31px hHeld ?r31px
            case o31px => simp only [List.getElem?_toArray, List.getElem?_cons_succ, List.getElem?_cons_zero]; rfl
            case q31px => exact fun _ _ _ h => h
            case y31px => (refine Or.inl ⟨rfl, ?_⟩; intro wq hq; obtain ⟨⟨a0, a1⟩, b0, b1⟩ := HS.out wq hq; go_simp; try with_reducible rfl)
            simp only [Act.put, List.setIfInBounds_toArray, List.set_cons_zero, List.set_cons_succ]
            refine wpAnyH_take (i := 32) (oi := ?p32px) (v := ?v32px) ?o32px (by kernel_rfl) (by kernel_rfl) (by kernel_rfl) ?q32px ?y32px hHeld ?r32px
            case o32px => simp only [List.getElem?_toArray, List.getElem?_cons_succ, List.getElem?_cons_zero]; rfl
            case q32px => exact fun _ _ _ h => h
            case y32px => (refine Or.inl ⟨rfl, ?_⟩; intro wq hq; obtain ⟨⟨a0, a1⟩, b0, b1⟩ := HS.out wq hq; go_simp; try with_reducible rfl)
            simp only [Act.put, List.setIfInBounds_toArray, List.set_cons_zero, List.set_cons_succ]
            refine wpAnyH_ready (rs := [30]) (by kernel_rfl) (by simp) ?_
            refine AllReadyH.cons (o := ?p30px) ?o30px ?s30px AllReadyH.nil
            case o30px => simp only [List.getElem?_toArray, List.getElem?_cons_succ, List.getElem?_cons_zero]; rfl
            intro K hK
            go_simp
            refine (HM.out _ hHeld).ts.len.mono ?_
            rintro e wA ⟨rfl, rfl⟩
            refine hK.out _ _ hHeld (fun hHeld => ?_)
            clear hK K
            refine wpAnyH_take (i := 33) (oi := ?p33px) (v := ?v33px) ?o33px (by kernel_rfl) (by kernel_rfl) (by kernel_rfl) ?q33px ?y33px hHeld ?r33px
            case o33px => simp only [List.getElem?_toArray, List.getElem?_cons_succ, List.getElem?_cons_zero]; rfl
            case q33px => exact fun _ _ _ h => h
            case y33px => (refine Or.inl ⟨rfl, ?_⟩; intro wq hq; obtain ⟨⟨a0, a1⟩, b0, b1⟩ := HS.out wq hq; go_simp; try with_reducible rfl)
            simp only [Act.put, List.setIfInBounds_toArray, List.set_cons_zero, List.set_cons_succ]
            refine wpAnyH_take (i := 34) (oi := ?p34px) (v := ?v34px) ?o34px (by kernel_rfl) (by kernel_rfl) (by kernel_rfl) ?q34px ?y34px hHeld ?r34px
            case o34px => simp only [List.getElem?_toArray, List.getElem?_cons_succ, List.getElem?_cons_zero]; rfl
            case q34px => exact fun _ _ _ h => h
            case y34px => (refine Or.inl ⟨rfl, ?_⟩; intro wq hq; obtain ⟨⟨a0, a1⟩, b0, b1⟩ := HS.out wq hq; go_simp; try with_reducible rfl)
            simp only [Act.put, List.setIfInBounds_toArray, List.set_cons_zero, List.set_cons_succ]
            refine wpAnyH_take (i := 35) (oi := ?p35px) (v := ?v35px) ?o35px (by kernel_rfl) (by kernel_rfl) (by kernel_rfl) ?q35px ?y35px hHeld ?r35px
            case o35px => simp only [List.getElem?_toArray, List.getElem?_cons_succ, List.getElem?_cons_zero]; rfl
            case q35px => exact fun _ _ _ h => h
            case y35px => (refine Or.inl ⟨rfl, ?_⟩; intro wq hq; obtain ⟨⟨a0, a1⟩, b0, b1⟩ := HS.out wq hq; go_simp; try with_reducible rfl)
            simp only [Act.put, List.setIfInBounds_toArray, List.set_cons_zero, List.set_cons_succ]
            refine wpAnyH_take (i := 36) (oi := ?p36px) (v := ?v36px) ?o36px (by kernel_rfl) (by kernel_rfl) (by kernel_rfl) ?q36px ?y36px hHeld ?r36px
            case o36px => simp only [List.getElem?_toArray, List.getElem?_cons_succ, List.getElem?_cons_zero]; rfl
            case q36px => exact fun _ _ _ h => h
            case y36px => (refine Or.inl ⟨rfl, ?_⟩; intro wq hq; obtain ⟨⟨a0, a1⟩, b0, b1⟩ := HS.out wq hq; go_simp; try with_reducible rfl)
            simp only [Act.put, List.setIfInBounds_toArray, List.set_cons_zero, List.set_cons_succ]
            refine wpAnyH_take (i := 38) (oi := ?p38px) (v := ?v38px) ?o38px (by kernel_rfl) (by kernel_rfl) (by kernel_rfl) ?q38px ?y38px hHeld ?r38px
            case o38px => simp only [List.getElem?_toArray, List.getElem?_cons_succ, List.getElem?_cons_zero]; rfl
            case q38px => exact fun _ _ _ h => h
            case y38px => (refine Or.inl ⟨rfl, ?_⟩; intro wq hq; obtain ⟨⟨a0, a1⟩, b0, b1⟩ := HS.out wq hq; go_simp; try with_reducible rfl)
            simp only [Act.put, List.setIfInBounds_toArray, List.set_cons_zero, List.set_cons_succ]
            refine wpAnyH_ready (rs := [37]) (by kernel_rfl) (by simp) ?_
            refine AllReadyH.cons (o := ?p37px) ?o37px ?s37px AllReadyH.nil
            case o37px => simp only [List.getElem?_toArray, List.getElem?_cons_succ, List.getElem?_cons_zero]; rfl
            intro K hK
            go_simp
            refine (HM.out _ hHeld).ts.all.mono ?_
            rintro e wB ⟨aB, cB, rfl, atB, _, BB, _⟩
            have BB2 := bel_up hHeld BB (Nat.le_refl _)
            have HAB := Hid_of atB
            clear BB atB
            refine hK.out _ _ BB2 (fun hHeld => ?_)
            clear hK K
            refine wpAnyH_ready (rs := [39]) (by kernel_rfl) (by simp) ?_
            refine AllReadyH.cons (o := ?p39px) ?o39px ?s39px AllReadyH.nil
            case o39px => simp only [List.getElem?_toArray, List.getElem?_cons_succ, List.getElem?_cons_zero]; rfl
            intro K hK
            go_simp
            have hsm := same_any aB cB (some ⟨bx, ox, none⟩) cy P3 _ (by omega) HAB.out (HM.out _ hHeld).y.at'
            refine hsm.mono ?_
            rintro e wC ⟨rfl, BC⟩
            have BC2 := bel_up hHeld BC (Nat.le_refl _)
            clear BC hsm
            refine hK.out _ _ BC2 (fun hHeld => ?_)
            clear hK K
            refine wpAnyH_take (i := 40) (oi := ?p40px) (v := ?v40px) ?o40px (by kernel_rfl) (by kernel_rfl) (by kernel_rfl) ?q40px ?y40px hHeld ?r40px
            case o40px => simp only [List.getElem?_toArray, List.getElem?_cons_succ, List.getElem?_cons_zero]; rfl
            case q40px => exact fun _ _ _ h => h
            case y40px => (refine Or.inl ⟨rfl, ?_⟩; intro wq hq; obtain ⟨⟨a0, a1⟩, b0, b1⟩ := HS.out wq hq; go_simp; try with_reducible rfl)
            simp only [Act.put, List.setIfInBounds_toArray, List.set_cons_zero, List.set_cons_succ]
            refine wpAnyH_take (i := 41) (oi := ?p41px) (v := ?v41px) ?o41px (by kernel_rfl) (by kernel_rfl) (by kernel_rfl) ?q41px ?y41px hHeld ?r41px
            case o41px => simp only [List.getElem?_toArray, List.getElem?_cons_succ, List.getElem?_cons_zero]; rfl
            case q41px => exact fun _ _ _ h => h
            case y41px => (refine Or.inl ⟨rfl, ?_⟩; intro wq hq; obtain ⟨⟨a0, a1⟩, b0, b1⟩ := HS.out wq hq; go_simp; try with_reducible rfl)
            simp only [Act.put, List.setIfInBounds_toArray, List.set_cons_zero, List.set_cons_succ]
            refine wpAnyH_done (by kernel_rfl) ?_ _
            go_wp2
            go_roundw
            case rel => exact ⟨k + 1, P3, v3, (some ⟨bx, ox, none⟩), cy, by omega, rfl, by go_num, (HM.out _ hHeld)⟩
            case measure => simp [intOf]; omega
          · have hP0 : P3 = [] := List.length_eq_zero_iff.1 (by omega)
            have HPZ := Hid_of hP0
            rw [hP0, show hdB [] = false from rfl, show hdV [] = .agg #[.int .i64 0, .int .i64 0] from rfl] at hnx
            have hl0 : P3.length = 0 := by omega
            rw [hl0]
            clear hpos hP0
            go_wp2_with fail
            refine hnx.mono ?_
            rintro e w20 ⟨rfl, B20, _⟩
            have HBW : Hid (Below w3.heap.size w3 (w20.alloc (.cells #[.int .i64 0, .int .i64 0] 42))) := bel_up B20 (bel1 w20 _) (Nat.le_refl _)
            have HRW : Hid ((w20.alloc (.cells #[.int .i64 0, .int .i64 0] 42)).heap[w20.heap.size]? = some (.cells #[.int .i64 0, .int .i64 0] 42 (0, 0)) ∧ w20.heap.size < (w20.alloc (.cells #[.int .i64 0, .int .i64 0] 42)).heap.size) := ⟨heap_alloc_last _ _, by simp⟩
            obtain ⟨W4, HW4⟩ : ∃ W4, Hid (w20.alloc (.cells #[.int .i64 0, .int .i64 0] 42) = W4) := ⟨_, rfl⟩
            rw [HW4.out] at HBW HRW
            have HS : Hid (∀ wq, Below W4.heap.size W4 wq → (wq.cell? ⟨w20.heap.size, 0, none⟩ = some (.int .i64 0) ∧ wq.cell? ⟨w20.heap.size, 1, none⟩ = some (.int .i64 0)) ∧ True) := fun wq hq => ⟨(row2 ((hq.block _ HRW.out.2).trans HRW.out.1)).1, trivial⟩
            have HM : Hid (∀ wq, Below W4.heap.size W4 wq → PX w wq b v3 P3 ay) := fun wq hq => HP.out.keep (bel_up HBW.out hq (Nat.le_refl _))
            clear B20 hnx HP HRW HBW
            go_wp2_with fail
            rw [HW4.out]
            clear HW4
            refine wp_region_held_drew (S := fun wq => Below (W4).heap.size (W4) wq) (by kernel_rfl) (Below.drew (Below.refl _ _)) (fun hHeld => ?_)
            refine wpAnyH_take (i := 0) (oi := ?p0py) (v := ?v0py) ?o0py (by kernel_rfl) (by kernel_rfl) (by kernel_rfl) ?q0py ?y0py hHeld ?r0py
            case o0py => simp only [List.getElem?_toArray, List.getElem?_cons_zero]; rfl
            case q0py => exact fun _ _ _ h => h
            case y0py => (refine Or.inl ⟨rfl, ?_⟩; intro wq hq; obtain ⟨⟨a0, a1⟩, _⟩ := HS.out wq hq; go_simp; try with_reducible rfl)
            simp only [Act.put, List.setIfInBounds_toArray, List.set_cons_zero, List.set_cons_succ]
            refine wpAnyH_take (i := 1) (oi := ?p1py) (v := ?v1py) ?o1py (by kernel_rfl) (by kernel_rfl) (by kernel_rfl) ?q1py ?y1py hHeld ?r1py
            case o1py => simp only [List.getElem?_toArray, List.getElem?_cons_succ, List.getElem?_cons_zero]; rfl
            case q1py => exact fun _ _ _ h => h
            case y1py => (refine Or.inl ⟨rfl, ?_⟩; intro wq hq; obtain ⟨⟨a0, a1⟩, _⟩ := HS.out wq hq; go_simp; try with_reducible rfl)
            simp only [Act.put, List.setIfInBounds_toArray, List.set_cons_zero, List.set_cons_succ]
            refine wpAnyH_take (i := 2) (oi := ?p2py) (v := ?v2py) ?o2py (by kernel_rfl) (by kernel_rfl) (by kernel_rfl) ?q2py ?y2py hHeld ?r2py
            case o2py => simp only [List.getElem?_toArray, List.getElem?_cons_succ, List.getElem?_cons_zero]; rfl
            case q2py => exact fun _ _ _ h => h
            case y2py => (refine Or.inl ⟨rfl, ?_⟩; intro wq hq; obtain ⟨⟨a0, a1⟩, _⟩ := HS.out wq hq; go_simp; try with_reducible rfl)
            simp only [Act.put, List.setIfInBounds_toArray, List.set_cons_zero, List.set_cons_succ]
            refine wpAnyH_take (i := 3) (oi := ?p3py) (v := ?v3py) ?o3py (by kernel_rfl) (by kernel_rfl) (by kernel_rfl) ?q3py ?y3py hHeld ?r3py
            case o3py => simp only [List.getElem?_toArray, List.getElem?_cons_succ, List.getElem?_cons_zero]; rfl
            case q3py => exact fun _ _ _ h => h
            case y3py => (refine Or.inl ⟨rfl, ?_⟩; intro wq hq; obtain ⟨⟨a0, a1⟩, _⟩ := HS.out wq hq; go_simp; try with_reducible rfl)
            simp only [Act.put, List.setIfInBounds_toArray, List.set_cons_zero, List.set_cons_succ]
            refine wpAnyH_take (i := 4) (oi := ?p4py) (v := ?v4py) ?o4py (by kernel_rfl) (by kernel_rfl) (by kernel_rfl) ?q4py ?y4py hHeld ?r4py
            case o4py => simp only [List.getElem?_toArray, List.getElem?_cons_succ, List.getElem?_cons_zero]; rfl
            case q4py => exact fun _ _ _ h => h
            case y4py => (refine Or.inl ⟨rfl, ?_⟩; intro wq hq; obtain ⟨⟨a0, a1⟩, _⟩ := HS.out wq hq; go_simp; try with_reducible rfl)
            simp only [Act.put, List.setIfInBounds_toArray, List.set_cons_zero, List.set_cons_succ]
            refine wpAnyH_take (i := 5) (oi := ?p5py) (v := ?v5py) ?o5py (by kernel_rfl) (by kernel_rfl) (by kernel_rfl) ?q5py ?y5py hHeld ?r5py
            case o5py => simp only [List.getElem?_toArray, List.getElem?_cons_succ, List.getElem?_cons_zero]; rfl
            case q5py => exact fun _ _ _ h => h
            case y5py => (refine Or.inl ⟨rfl, ?_⟩; intro wq hq; obtain ⟨⟨a0, a1⟩, _⟩ := HS.out wq hq; go_simp; try with_reducible rfl)
            simp only [Act.put, List.setIfInBounds_toArray, List.set_cons_zero, List.set_cons_succ]
            refine wpAnyH_take (i := 6) (oi := ?p6py) (v := ?v6py) ?o6py (by kernel_rfl) (by kernel_rfl) (by kernel_rfl) ?q6py ?y6py hHeld ?r6py
            case o6py => simp only [List.getElem?_toArray, List.getElem?_cons_succ, List.getElem?_cons_zero]; rfl
            case q6py => exact fun _ _ _ h => h
            case y6py => (refine Or.inl ⟨rfl, ?_⟩; intro wq hq; obtain ⟨⟨a0, a1⟩, _⟩ := HS.out wq hq; go_simp; try with_reducible rfl)
            simp only [Act.put, List.setIfInBounds_toArray, List.set_cons_zero, List.set_cons_succ]
            refine wpAnyH_take (i := 7) (oi := ?p7py) (v := ?v7py) ?o7py (by kernel_rfl) (by kernel_rfl) (by kernel_rfl) ?q7py ?y7py hHeld ?r7py
            case o7py => simp only [List.getElem?_toArray, List.getElem?_cons_succ, List.getElem?_cons_zero]; rfl
            case q7py => exact fun _ _ _ h => h
            case y7py => (refine Or.inl ⟨rfl, ?_⟩; intro wq hq; obtain ⟨⟨a0, a1⟩, _⟩ := HS.out wq hq; go_simp; try with_reducible rfl)
            simp only [Act.put, List.setIfInBounds_toArray, List.set_cons_zero, List.set_cons_succ]
            refine wpAnyH_take (i := 8) (oi := ?p8py) (v := ?v8py) ?o8py (by kernel_rfl) (by kernel_rfl) (by kernel_rfl) ?q8py ?y8py hHeld ?r8py
            case o8py => simp only [List.getElem?_toArray, List.getElem?_cons_succ, List.getElem?_cons_zero]; rfl
            case q8py => exact fun _ _ _ h => h
            case y8py => (refine Or.inl ⟨rfl, ?_⟩; intro wq hq; obtain ⟨⟨a0, a1⟩, _⟩ := HS.out wq hq; go_simp; try with_reducible rfl)
            simp only [Act.put, List.setIfInBounds_toArray, List.set_cons_zero, List.set_cons_succ]
            refine wpAnyH_take (i := 9) (oi := ?p9py) (v := ?v9py) ?o9py (by kernel_rfl) (by kernel_rfl) (by kernel_rfl) ?q9py ?y9py hHeld ?r9py
            case o9py => simp only [List.getElem?_toArray, List.getElem?_cons_succ, List.getElem?_cons_zero]; rfl
            case q9py => exact fun _ _ _ h => h
            case y9py => (refine Or.inl ⟨rfl, ?_⟩; intro wq hq; obtain ⟨⟨a0, a1⟩, _⟩ := HS.out wq hq; go_simp; try with_reducible rfl)
            simp only [Act.put, List.setIfInBounds_toArray, List.set_cons_zero, List.set_cons_succ]
            refine wpAnyH_take (i := 10) (oi := ?p10py) (v := ?v10py) ?o10py (by kernel_rfl) (by kernel_rfl) (by kernel_rfl) ?q10py ?y10py hHeld ?r10py
            case o10py => simp only [List.getElem?_toArray, List.getElem?_cons_succ, List.getElem?_cons_zero]; rfl
            case q10py => exact fun _ _ _ h => h
            case y10py => (refine Or.inl ⟨rfl, ?_⟩; intro wq hq; obtain ⟨⟨a0, a1⟩, _⟩ := HS.out wq hq; go_simp; try with_reducible rfl)
            simp only [Act.put, List.setIfInBounds_toArray, List.set_cons_zero, List.set_cons_succ]
            refine wpAnyH_take (i := 11) (oi := ?p11py) (v := ?v11py) ?o11py (by kernel_rfl) (by kernel_rfl) (by kernel_rfl) ?q11py ?y11py hHeld ?r11py
            case o11py => simp only [List.getElem?_toArray, List.getElem?_cons_succ, List.getElem?_cons_zero]; rfl
            case q11py => exact fun _ _ _ h => h
            case y11py => (refine Or.inl ⟨rfl, ?_⟩; intro wq hq; obtain ⟨⟨a0, a1⟩, _⟩ := HS.out wq hq; go_simp; try with_reducible rfl)
            simp only [Act.put, List.setIfInBounds_toArray, List.set_cons_zero, List.set_cons_succ]
            refine wpAnyH_take (i := 12) (oi := ?p12py) (v := undef) ?o12py (by kernel_rfl) (by kernel_rfl) (by kernel_rfl) ?q12py ?y12py hHeld ?r12py
            case o12py => simp only [List.getElem?_toArray, List.getElem?_cons_succ, List.getElem?_cons_zero]; rfl
            case q12py => exact fun _ _ _ h => h
            case y12py => exact Or.inr ⟨rfl, rfl⟩
            simp only [Act.put, List.setIfInBounds_toArray, List.set_cons_zero, List.set_cons_succ]
            refine wpAnyH_take (i := 13) (oi := ?p13py) (v := undef) ?o13py (by kernel_rfl) (by kernel_rfl) (by kernel_rfl) ?q13py ?y13py hHeld ?r13py
            case o13py => simp only [List.getElem?_toArray, List.getElem?_cons_succ, List.getElem?_cons_zero]; rfl
            case q13py => exact fun _ _ _ h => h
            case y13py => exact Or.inr ⟨rfl, rfl⟩
            simp only [Act.put, List.setIfInBounds_toArray, List.set_cons_zero, List.set_cons_succ]
            refine wpAnyH_take (i := 14) (oi := ?p14py) (v := undef) ?o14py (by kernel_rfl) (by kernel_rfl) (by kernel_rfl) ?q14py ?y14py hHeld ?r14py
            case o14py => simp only [List.getElem?_toArray, List.getElem?_cons_succ, List.getElem?_cons_zero]; rfl
            case q14py => exact fun _ _ _ h => h
            case y14py => exact Or.inr ⟨rfl, rfl⟩
            simp only [Act.put, List.setIfInBounds_toArray, List.set_cons_zero, List.set_cons_succ]
            refine wpAnyH_take (i := 15) (oi := ?p15py) (v := undef) ?o15py (by kernel_rfl) (by kernel_rfl) (by kernel_rfl) ?q15py ?y15py hHeld ?r15py
            case o15py => simp only [List.getElem?_toArray, List.getElem?_cons_succ, List.getElem?_cons_zero]; rfl
            case q15py => exact fun _ _ _ h => h
            case y15py => exact Or.inr ⟨rfl, rfl⟩
            simp only [Act.put, List.setIfInBounds_toArray, List.set_cons_zero, List.set_cons_succ]
            refine wpAnyH_take (i := 16) (oi := ?p16py) (v := undef) ?o16py (by kernel_rfl) (by kernel_rfl) (by kernel_rfl) ?q16py ?y16py hHeld ?r16py
            case o16py => simp only [List.getElem?_toArray, List.getElem?_cons_succ, List.getElem?_cons_zero]; rfl
            case q16py => exact fun _ _ _ h => h
            case y16py => exact Or.inr ⟨rfl, rfl⟩
            simp only [Act.put, List.setIfInBounds_toArray, List.set_cons_zero, List.set_cons_succ]
            refine wpAnyH_take (i := 17) (oi := ?p17py) (v := ?v17py) ?o17py (by kernel_rfl) (by kernel_rfl) (by kernel_rfl) ?q17py ?y17py hHeld ?r17py
            case o17py => simp only [List.getElem?_toArray, List.getElem?_cons_succ, List.getElem?_cons_zero]; rfl
            case q17py => exact fun _ _ _ h => h
            case y17py => (refine Or.inl ⟨rfl, ?_⟩; intro wq hq; obtain ⟨⟨a0, a1⟩, _⟩ := HS.out wq hq; go_simp; try with_reducible rfl)
            simp only [Act.put, List.setIfInBounds_toArray, List.set_cons_zero, List.set_cons_succ]
            refine wpAnyH_take (i := 18) (oi := ?p18py) (v := ?v18py) ?o18py (by kernel_rfl) (by kernel_rfl) (by kernel_rfl) ?q18py ?y18py hHeld ?r18py
            case o18py => simp only [List.getElem?_toArray, List.getElem?_cons_succ, List.getElem?_cons_zero]; rfl
            case q18py => exact fun _ _ _ h => h
            case y18py => (refine Or.inl ⟨rfl, ?_⟩; intro wq hq; obtain ⟨⟨a0, a1⟩, _⟩ := HS.out wq hq; go_simp; try with_reducible rfl)
            simp only [Act.put, List.setIfInBounds_toArray, List.set_cons_zero, List.set_cons_succ]
            refine wpAnyH_take (i := 19) (oi := ?p19py) (v := ?v19py) ?o19py (by kernel_rfl) (by kernel_rfl) (by kernel_rfl) ?q19py ?y19py hHeld ?r19py
            case o19py => simp only [List.getElem?_toArray, List.getElem?_cons_succ, List.getElem?_cons_zero]; rfl
            case q19py => exact fun _ _ _ h => h
            case y19py => (refine Or.inl ⟨rfl, ?_⟩; intro wq hq; obtain ⟨⟨a0, a1⟩, _⟩ := HS.out wq hq; go_simp; try with_reducible rfl)
            simp only [Act.put, List.setIfInBounds_toArray, List.set_cons_zero, List.set_cons_succ]
            refine wpAnyH_take (i := 20) (oi := ?p20py) (v := ?v20py) ?o20py (by kernel_rfl) (by kernel_rfl) (by kernel_rfl) ?q20py ?y20py hHeld ?r20py
            case o20py => simp only [List.getElem?_toArray, List.getElem?_cons_succ, List.getElem?_cons_zero]; rfl
            case q20py => exact fun _ _ _ h => h
            case y20py => (refine Or.inl ⟨rfl, ?_⟩; intro wq hq; obtain ⟨⟨a0, a1⟩, _⟩ := HS.out wq hq; go_simp; try with_reducible rfl)
            simp only [Act.put, List.setIfInBounds_toArray, List.set_cons_zero, List.set_cons_succ]
            refine wpAnyH_take (i := 21) (oi := ?p21py) (v := ?v21py) ?o21py (by kernel_rfl) (by kernel_rfl) (by kernel_rfl) ?q21py ?y21py hHeld ?r21py
            case o21py => simp only [List.getElem?_toArray, List.getElem?_cons_succ, List.getElem?_cons_zero]; rfl
            case q21py => exact fun _ _ _ h => h
            case y21py => (refine Or.inl ⟨rfl, ?_⟩; intro wq hq; obtain ⟨⟨a0, a1⟩, _⟩ := HS.out wq hq; go_simp; try with_reducible rfl)
            simp only [Act.put, List.setIfInBounds_toArray, List.set_cons_zero, List.set_cons_succ]
            refine wpAnyH_take (i := 22) (oi := ?p22py) (v := ?v22py) ?o22py (by kernel_rfl) (by kernel_rfl) (by kernel_rfl) ?q22py ?y22py hHeld ?r22py
            case o22py => simp only [List.getElem?_toArray, List.getElem?_cons_succ, List.getElem?_cons_zero]; rfl
            case q22py => exact fun _ _ _ h => h
            case y22py => (refine Or.inl ⟨rfl, ?_⟩; intro wq hq; obtain ⟨⟨a0, a1⟩, _⟩ := HS.out wq hq; go_simp; try with_reducible rfl)
            simp only [Act.put, List.setIfInBounds_toArray, List.set_cons_zero, List.set_cons_succ]
            refine wpAnyH_take (i := 23) (oi := ?p23py) (v := ?v23py) ?o23py (by kernel_rfl) (by kernel_rfl) (by kernel_rfl) ?q23py ?y23py hHeld ?r23py
            case o23py => simp only [List.getElem?_toArray, List.getElem?_cons_succ, List.getElem?_cons_zero]; rfl
            case q23py => exact fun _ _ _ h => h
            case y23py => (refine Or.inl ⟨rfl, ?_⟩; intro wq hq; obtain ⟨⟨a0, a1⟩, _⟩ := HS.out wq hq; go_simp; try with_reducible rfl)
            simp only [Act.put, List.setIfInBounds_toArray, List.set_cons_zero, List.set_cons_succ]
            refine wpAnyH_take (i := 24) (oi := ?p24py) (v := ?v24py) ?o24py (by kernel_rfl) (by kernel_rfl) (by kernel_rfl) ?q24py ?y24py hHeld ?r24py
            case o24py => simp only [List.getElem?_toArray, List.getElem?_cons_succ, List.getElem?_cons_zero]; rfl
            case q24py => exact fun _ _ _ h => h
            case y24py => (refine Or.inl ⟨rfl, ?_⟩; intro wq hq; obtain ⟨⟨a0, a1⟩, _⟩ := HS.out wq hq; go_simp; try with_reducible rfl)
            simp only [Act.put, List.setIfInBounds_toArray, List.set_cons_zero, List.set_cons_succ]
            refine wpAnyH_take (i := 25) (oi := ?p25py) (v := ?v25py) ?o25py (by kernel_rfl) (by kernel_rfl) (by kernel_rfl) ?q25py ?y25py hHeld ?r25py
            case o25py => simp only [List.getElem?_toArray, List.getElem?_cons_succ, List.getElem?_cons_zero]; rfl
            case q25py => exact fun _ _ _ h => h
            case y25py => (refine Or.inl ⟨rfl, ?_⟩; intro wq hq; obtain ⟨⟨a0, a1⟩, _⟩ := HS.out wq hq; go_simp; try with_reducible rfl)
            simp only [Act.put, List.setIfInBounds_toArray, List.set_cons_zero, List.set_cons_succ]
            refine wpAnyH_take (i := 26) (oi := ?p26py) (v := ?v26py) ?o26py (by kernel_rfl) (by kernel_rfl) (by kernel_rfl) ?q26py ?y26py hHeld ?r26py
            case o26py => simp only [List.getElem?_toArray, List.getElem?_cons_succ, List.getElem?_cons_zero]; rfl
            case q26py => exact fun _ _ _ h => h
            case y26py => (refine Or.inl ⟨rfl, ?_⟩; intro wq hq; obtain ⟨⟨a0, a1⟩, _⟩ := HS.out wq hq; go_simp; try with_reducible rfl)
            simp only [Act.put, List.setIfInBounds_toArray, List.set_cons_zero, List.set_cons_succ]
            refine wpAnyH_take (i := 27) (oi := ?p27py) (v := ?v27py) ?o27py (by kernel_rfl) (by kernel_rfl) (by kernel_rfl) ?q27py ?y27py hHeld ?r27py
            case o27py => simp only [List.getElem?_toArray, List.getElem?_cons_succ, List.getElem?_cons_zero]; rfl
            case q27py => exact fun _ _ _ h => h
            case y27py => (refine Or.inl ⟨rfl, ?_⟩; intro wq hq; obtain ⟨⟨a0, a1⟩, _⟩ := HS.out wq hq; go_simp; try with_reducible rfl)
            simp only [Act.put, List.setIfInBounds_toArray, List.set_cons_zero, List.set_cons_succ]
            refine wpAnyH_take (i := 28) (oi := ?p28py) (v := ?v28py) ?o28py (by kernel_rfl) (by kernel_rfl) (by kernel_rfl) ?q28py ?y28py hHeld ?r28py
            case o28py => simp only [List.getElem?_toArray, List.getElem?_cons_succ, List.getElem?_cons_zero]; rfl
            case q28py => exact fun _ _ _ h => h
            case y28py => (refine Or.inl ⟨rfl, ?_⟩; intro wq hq; obtain ⟨⟨a0, a1⟩, _⟩ := HS.out wq hq; go_simp; try with_reducible rfl)
            simp only [Act.put, List.setIfInBounds_toArray, List.set_cons_zero, List.set_cons_succ]
            refine wpAnyH_take (i := 29) (oi := ?p29py) (v := ?v29py) ?o29py (by kernel_rfl) (by kernel_rfl) (by kernel_rfl) ?q29py ?y29py hHeld ?r29py
            case o29py => simp only [List.getElem?_toArray, List.getElem?_cons_succ, List.getElem?_cons_zero]; rfl
            case q29py => exact fun _ _ _ h => h
            case y29py => (refine Or.inl ⟨rfl, ?_⟩; intro wq hq; obtain ⟨⟨a0, a1⟩, _⟩ := HS.out wq hq; go_simp; try with_reducible rfl)
            simp only [Act.put, List.setIfInBounds_toArray, List.set_cons_zero, List.set_cons_succ]
            refine wpAnyH_take (i := 31) (oi := ?p31py) (v := ?v31py) ?o31py (by kernel_rfl) (by kernel_rfl) (by kernel_rfl) ?q31py ?y31py hHeld ?r31py
            case o31py => simp only [List.getElem?_toArray, List.getElem?_cons_succ, List.getElem?_cons_zero]; rfl
            case q31py => exact fun _ _ _ h => h
            case y31py => (refine Or.inl ⟨rfl, ?_⟩; intro wq hq; obtain ⟨⟨a0, a1⟩, _⟩ := HS.out wq hq; go_simp; try with_reducible rfl)
            simp only [Act.put, List.setIfInBounds_toArray, List.set_cons_zero, List.set_cons_succ]
            refine wpAnyH_take (i := 32) (oi := ?p32py) (v := ?v32py) ?o32py (by kernel_rfl) (by kernel_rfl) (by kernel_rfl) ?q32py ?y32py hHeld ?r32py
            case o32py => simp only [List.getElem?_toArray, List.getElem?_cons_succ, List.getElem?_cons_zero]; rfl
            case q32py => exact fun _ _ _ h => h
            case y32py => (refine Or.inl ⟨rfl, ?_⟩; intro wq hq; obtain ⟨⟨a0, a1⟩, _⟩ := HS.out wq hq; go_simp; try with_reducible rfl)
            simp only [Act.put, List.setIfInBounds_toArray, List.set_cons_zero, List.set_cons_succ]
            refine wpAnyH_ready (rs := [30]) (by kernel_rfl) (by simp) ?_
            refine AllReadyH.cons (o := ?p30py) ?o30py ?s30py AllReadyH.nil
            case o30py => simp only [List.getElem?_toArray, List.getElem?_cons_succ, List.getElem?_cons_zero]; rfl
            intro K hK
            go_simp
            refine (HM.out _ hHeld).ts.len.mono ?_
            rintro e wA ⟨rfl, rfl⟩
            rw [hl0]
            refine hK.out _ _ hHeld (fun hHeld => ?_)
            clear hK K
            refine wpAnyH_take (i := 33) (oi := ?p33py) (v := ?v33py) ?o33py (by kernel_rfl) (by kernel_rfl) (by kernel_rfl) ?q33py ?y33py hHeld ?r33py
            case o33py => simp only [List.getElem?_toArray, List.getElem?_cons_succ, List.getElem?_cons_zero]; rfl
            case q33py => exact fun _ _ _ h => h
            case y33py => (refine Or.inl ⟨rfl, ?_⟩; intro wq hq; obtain ⟨⟨a0, a1⟩, _⟩ := HS.out wq hq; go_simp; try with_reducible rfl)
            simp only [Act.put, List.setIfInBounds_toArray, List.set_cons_zero, List.set_cons_succ]
            refine wpAnyH_take (i := 34) (oi := ?p34py) (v := ?v34py) ?o34py (by kernel_rfl) (by kernel_rfl) (by kernel_rfl) ?q34py ?y34py hHeld ?r34py
            case o34py => simp only [List.getElem?_toArray, List.getElem?_cons_succ, List.getElem?_cons_zero]; rfl
            case q34py => exact fun _ _ _ h => h
            case y34py => (refine Or.inl ⟨rfl, ?_⟩; intro wq hq; obtain ⟨⟨a0, a1⟩, _⟩ := HS.out wq hq; go_simp; try with_reducible rfl)
            simp only [Act.put, List.setIfInBounds_toArray, List.set_cons_zero, List.set_cons_succ]
            refine wpAnyH_take (i := 35) (oi := ?p35py) (v := ?v35py) ?o35py (by kernel_rfl) (by kernel_rfl) (by kernel_rfl) ?q35py ?y35py hHeld ?r35py
            case o35py => simp only [List.getElem?_toArray, List.getElem?_cons_succ, List.getElem?_cons_zero]; rfl
            case q35py => exact fun _ _ _ h => h
            case y35py => (refine Or.inl ⟨rfl, ?_⟩; intro wq hq; obtain ⟨⟨a0, a1⟩, _⟩ := HS.out wq hq; go_simp; try with_reducible rfl)
            simp only [Act.put, List.setIfInBounds_toArray, List.set_cons_zero, List.set_cons_succ]
            refine wpAnyH_take (i := 36) (oi := ?p36py) (v := ?v36py) ?o36py (by kernel_rfl) (by kernel_rfl) (by kernel_rfl) ?q36py ?y36py hHeld ?r36py
            case o36py => simp only [List.getElem?_toArray, List.getElem?_cons_succ, List.getElem?_cons_zero]; rfl
            case q36py => exact fun _ _ _ h => h
            case y36py => (refine Or.inl ⟨rfl, ?_⟩; intro wq hq; obtain ⟨⟨a0, a1⟩, _⟩ := HS.out wq hq; go_simp; try with_reducible rfl)
            simp only [Act.put, List.setIfInBounds_toArray, List.set_cons_zero, List.set_cons_succ]
            refine wpAnyH_take (i := 38) (oi := ?p38py) (v := ?v38py) ?o38py (by kernel_rfl) (by kernel_rfl) (by kernel_rfl) ?q38py ?y38py hHeld ?r38py
            case o38py => simp only [List.getElem?_toArray, List.getElem?_cons_succ, List.getElem?_cons_zero]; rfl
            case q38py => exact fun _ _ _ h => h
            case y38py => (refine Or.inl ⟨rfl, ?_⟩; intro wq hq; obtain ⟨⟨a0, a1⟩, _⟩ := HS.out wq hq; go_simp; try with_reducible rfl)
            simp only [Act.put, List.setIfInBounds_toArray, List.set_cons_zero, List.set_cons_succ]
            refine wpAnyH_ready (rs := [37]) (by kernel_rfl) (by simp) ?_
            refine AllReadyH.cons (o := ?p37py) ?o37py ?s37py AllReadyH.nil
            case o37py => simp only [List.getElem?_toArray, List.getElem?_cons_succ, List.getElem?_cons_zero]; rfl
            intro K hK
            go_simp
            refine (HM.out _ hHeld).ts.all.mono ?_
            rintro e wB ⟨aB, cB, rfl, atB, _, BB, _⟩
            have BB2 := bel_up hHeld BB (Nat.le_refl _)
            have HAB := Hid_of atB
            clear BB atB
            rw [hl0]
            refine hK.out _ _ BB2 (fun hHeld => ?_)
            clear hK K
            refine wpAnyH_ready (rs := [39]) (by kernel_rfl) (by simp) ?_
            refine AllReadyH.cons (o := ?p39py) ?o39py ?s39py AllReadyH.nil
            case o39py => simp only [List.getElem?_toArray, List.getElem?_cons_succ, List.getElem?_cons_zero]; rfl
            intro K hK
            go_simp
            have hsm := same_any aB cB ay cy P3 _ (by omega) HAB.out (HM.out _ hHeld).y.at'
            rw [hl0] at hsm
            refine hsm.mono ?_
            rintro e wC ⟨rfl, BC⟩
            have BC2 := bel_up hHeld BC (Nat.le_refl _)
            clear BC hsm
            refine hK.out _ _ BC2 (fun hHeld => ?_)
            clear hK K
            refine wpAnyH_take (i := 40) (oi := ?p40py) (v := ?v40py) ?o40py (by kernel_rfl) (by kernel_rfl) (by kernel_rfl) ?q40py ?y40py hHeld ?r40py
            case o40py => simp only [List.getElem?_toArray, List.getElem?_cons_succ, List.getElem?_cons_zero]; rfl
            case q40py => exact fun _ _ _ h => h
            case y40py => (refine Or.inl ⟨rfl, ?_⟩; intro wq hq; obtain ⟨⟨a0, a1⟩, _⟩ := HS.out wq hq; go_simp; try with_reducible rfl)
            simp only [Act.put, List.setIfInBounds_toArray, List.set_cons_zero, List.set_cons_succ]
            refine wpAnyH_take (i := 41) (oi := ?p41py) (v := ?v41py) ?o41py (by kernel_rfl) (by kernel_rfl) (by kernel_rfl) ?q41py ?y41py hHeld ?r41py
            case o41py => simp only [List.getElem?_toArray, List.getElem?_cons_succ, List.getElem?_cons_zero]; rfl
            case q41py => exact fun _ _ _ h => h
            case y41py => (refine Or.inl ⟨rfl, ?_⟩; intro wq hq; obtain ⟨⟨a0, a1⟩, _⟩ := HS.out wq hq; go_simp; try with_reducible rfl)
            simp only [Act.put, List.setIfInBounds_toArray, List.set_cons_zero, List.set_cons_succ]
            refine wpAnyH_done (by kernel_rfl) ?_ _
            go_wp2
            go_roundw
            case rel => exact ⟨k + 1, P3, v3, ay, cy, by omega, by rw [HPZ.out]; rfl, by go_num, (HM.out _ hHeld)⟩
            case measure => simp [intOf]; omega
        by_cases hk1 : dk = 1
        · have hk0' : (dk == 0) = false := by simpa using hk0
          have hk1' : (dk == 1) = true := by simpa using hk1
          have hc := rstop_any ax cx P da W1 (by omega) HX1.out.y.at'
          clear hk0 hk1
          go_wp2_with fail
          rw [HW1.out]
          clear HW1 c0 c1 c2
          refine hc.mono ?_
          rintro e w2 ⟨y, rfl, hres, B2⟩
          obtain ⟨ay, cy, rfl, hY⟩ := HX1.out.res (cap := cx) B2 (.inr hres)
          have hc2 := (HX1.out.ts.keep B2).stopC da
          obtain ⟨d0, d1, d2⟩ := HBOX.out w2 B2
          have HY := Hid_of hY
          clear hres hY B2 hc HX1 HBOX
          generalize decide ((M.stop P da).length < P.length) = bst at *
          go_wp2_with fail
          refine hc2.mono ?_
          rintro e w3 ⟨v3, rfl, T3, C3⟩
          have HP : Hid (PX w w3 b v3 (M.stop P da) ay) := ⟨T3, HY.out.step C3⟩
          clear HY T3 C3 hc2 d0 d1 d2
          have hn3 := HP.out.ts.x.len
          generalize M.stop P da = P3 at *
          have hnx := HP.out.ts.next
          by_cases hpos : 0 < P3.length
          · obtain ⟨hg1, hg2, hg3⟩ := hd_get P3 hpos
            rw [hg3, hdV_eq] at hnx
            have hpi : (0 : Int) < (P3.length : Int) := by omega
            have hAT0 : ∀ wq, Below w3.heap.size w3 wq → ∃ bx ox, ay = some (⟨bx, ox, none⟩ : Addr) ∧ wq.cell? ⟨bx, ox, none⟩ = some (.int .i64 (hdI P3)) ∧ wq.cell? ⟨bx, ox + 1, none⟩ = some (.int .i64 (hdT P3)) := fun wq hq => by
              obtain ⟨bx, ox, e, h1, h2⟩ := (HP.out.y.at'.keep hq) 0 hpos
              rw [Nat.zero_mul, Nat.add_zero] at h1 h2
              exact ⟨bx, ox, e, by rw [← hg1]; exact h1, by rw [← hg2]; exact h2⟩
            obtain ⟨bx, ox, rfl, _, _⟩ := hAT0 w3 (Below.refl _ _)
            have HAT := Hid_of hAT0
            clear hAT0 hg1 hg2 hg3
            go_wp2_with fail
            refine hnx.mono ?_
            rintro e w20 ⟨rfl, B20, _⟩
            have HBW : Hid (Below w3.heap.size w3 (w20.alloc (.cells #[.int .i64 (hdI P3), .int .i64 (hdT P3)] 42))) := bel_up B20 (bel1 w20 _) (Nat.le_refl _)
            have HRW : Hid ((w20.alloc (.cells #[.int .i64 (hdI P3), .int .i64 (hdT P3)] 42)).heap[w20.heap.size]? = some (.cells #[.int .i64 (hdI P3), .int .i64 (hdT P3)] 42 (0, 0)) ∧ w20.heap.size < (w20.alloc (.cells #[.int .i64 (hdI P3), .int .i64 (hdT P3)] 42)).heap.size) := ⟨heap_alloc_last _ _, by simp⟩
            obtain ⟨W4, HW4⟩ : ∃ W4, Hid (w20.alloc (.cells #[.int .i64 (hdI P3), .int .i64 (hdT P3)] 42) = W4) := ⟨_, rfl⟩
            rw [HW4.out] at HBW HRW
            have HS : Hid (∀ wq, Below W4.heap.size W4 wq → (wq.cell? ⟨w20.heap.size, 0, none⟩ = some (.int .i64 (hdI P3)) ∧ wq.cell? ⟨w20.heap.size, 1, none⟩ = some (.int .i64 (hdT P3))) ∧ (wq.cell? ⟨bx, ox, none⟩ = some (.int .i64 (hdI P3)) ∧ wq.cell? ⟨bx, ox + 1, none⟩ = some (.int .i64 (hdT P3)))) := fun wq hq => by
              obtain ⟨bx', ox', e, h1, h2⟩ := HAT.out wq (bel_up HBW.out hq (Nat.le_refl _))
              cases e
              exact ⟨(row2 ((hq.block _ HRW.out.2).trans HRW.out.1)).1, h1, h2⟩
            have HM : Hid (∀ wq, Below W4.heap.size W4 wq → PX w wq b v3 P3 (some ⟨bx, ox, none⟩)) := fun wq hq => HP.out.keep (bel_up HBW.out hq (Nat.le_refl _))
            clear B20 hnx HP HAT HRW HBW
            generalize hdI P3 = hi at *
            generalize hdT P3 = ht at *
            go_wp2_with fail
            rw [HW4.out]
            clear HW4
            refine wp_region_held_drew (S := fun wq => Below (W4).heap.size (W4) wq) (by kernel_rfl) (Below.drew (Below.refl _ _)) (fun hHeld => ?_)
            refine wpAnyH_take (i := 0) (oi := ?p0qx) (v := ?v0qx) ?o0qx (by kernel_rfl) (by kernel_rfl) (by kernel_rfl) ?q0qx ?y0qx hHeld ?r0qx
            case o0qx => simp only [List.getElem?_toArray, List.getElem?_cons_zero]; rfl
            case q0qx => exact fun _ _ _ h => h
            case y0qx => (refine Or.inl ⟨rfl, ?_⟩; intro wq hq; obtain ⟨⟨a0, a1⟩, b0, b1⟩ := HS.out wq hq; go_simp; try with_reducible rfl)
            simp only [Act.put, List.setIfInBounds_toArray, List.set_cons_zero, List.set_cons_succ]
            refine wpAnyH_take (i := 1) (oi := ?p1qx) (v := ?v1qx) ?o1qx (by kernel_rfl) (by kernel_rfl) (by kernel_rfl) ?q1qx ?y1qx hHeld ?r1qx
            case o1qx => simp only [List.getElem?_toArray, List.getElem?_cons_succ, List.getElem?_cons_zero]; rfl
            case q1qx => exact fun _ _ _ h => h
            case y1qx => (refine Or.inl ⟨rfl, ?_⟩; intro wq hq; obtain ⟨⟨a0, a1⟩, b0, b1⟩ := HS.out wq hq; go_simp; try with_reducible rfl)
            simp only [Act.put, List.setIfInBounds_toArray, List.set_cons_zero, List.set_cons_succ]
            refine wpAnyH_take (i := 2) (oi := ?p2qx) (v := ?v2qx) ?o2qx (by kernel_rfl) (by kernel_rfl) (by kernel_rfl) ?q2qx ?y2qx hHeld ?r2qx
            case o2qx => simp only [List.getElem?_toArray, List.getElem?_cons_succ, List.getElem?_cons_zero]; rfl
            case q2qx => exact fun _ _ _ h => h
            case y2qx => (refine Or.inl ⟨rfl, ?_⟩; intro wq hq; obtain ⟨⟨a0, a1⟩, b0, b1⟩ := HS.out wq hq; go_simp; try with_reducible rfl)
            simp only [Act.put, List.setIfInBounds_toArray, List.set_cons_zero, List.set_cons_succ]
            refine wpAnyH_take (i := 3) (oi := ?p3qx) (v := ?v3qx) ?o3qx (by kernel_rfl) (by kernel_rfl) (by kernel_rfl) ?q3qx ?y3qx hHeld ?r3qx
            case o3qx => simp only [List.getElem?_toArray, List.getElem?_cons_succ, List.getElem?_cons_zero]; rfl
            case q3qx => exact fun _ _ _ h => h
            case y3qx => (refine Or.inl ⟨rfl, ?_⟩; intro wq hq; obtain ⟨⟨a0, a1⟩, b0, b1⟩ := HS.out wq hq; go_simp; try with_reducible rfl)
            simp only [Act.put, List.setIfInBounds_toArray, List.set_cons_zero, List.set_cons_succ]
            refine wpAnyH_take (i := 4) (oi := ?p4qx) (v := ?v4qx) ?o4qx (by kernel_rfl) (by kernel_rfl) (by kernel_rfl) ?q4qx ?y4qx hHeld ?r4qx
            case o4qx => simp only [List.getElem?_toArray, List.getElem?_cons_succ, List.getElem?_cons_zero]; rfl
            case q4qx => exact fun _ _ _ h => h
            case y4qx => (refine Or.inl ⟨rfl, ?_⟩; intro wq hq; obtain ⟨⟨a0, a1⟩, b0, b1⟩ := HS.out wq hq; go_simp; try with_reducible rfl)
            simp only [Act.put, List.setIfInBounds_toArray, List.set_cons_zero, List.set_cons_succ]
            refine wpAnyH_take (i := 5) (oi := ?p5qx) (v := ?v5qx) ?o5qx (by kernel_rfl) (by kernel_rfl) (by kernel_rfl) ?q5qx ?y5qx hHeld ?r5qx
            case o5qx => simp only [List.getElem?_toArray, List.getElem?_cons_succ, List.getElem?_cons_zero]; rfl
            case q5qx => exact fun _ _ _ h => h
            case y5qx => (refine Or.inl ⟨rfl, ?_⟩; intro wq hq; obtain ⟨⟨a0, a1⟩, b0, b1⟩ := HS.out wq hq; go_simp; try with_reducible rfl)
            simp only [Act.put, List.setIfInBounds_toArray, List.set_cons_zero, List.set_cons_succ]
            refine wpAnyH_take (i := 6) (oi := ?p6qx) (v := ?v6qx) ?o6qx (by kernel_rfl) (by kernel_rfl) (by kernel_rfl) ?q6qx ?y6qx hHeld ?r6qx
            case o6qx => simp only [List.getElem?_toArray, List.getElem?_cons_succ, List.getElem?_cons_zero]; rfl
            case q6qx => exact fun _ _ _ h => h
            case y6qx => (refine Or.inl ⟨rfl, ?_⟩; intro wq hq; obtain ⟨⟨a0, a1⟩, b0, b1⟩ := HS.out wq hq; go_simp; try with_reducible rfl)
            simp only [Act.put, List.setIfInBounds_toArray, List.set_cons_zero, List.set_cons_succ]
            refine wpAnyH_take (i := 7) (oi := ?p7qx) (v := ?v7qx) ?o7qx (by kernel_rfl) (by kernel_rfl) (by kernel_rfl) ?q7qx ?y7qx hHeld ?r7qx
            case o7qx => simp only [List.getElem?_toArray, List.getElem?_cons_succ, List.getElem?_cons_zero]; rfl
            case q7qx => exact fun _ _ _ h => h
            case y7qx => (refine Or.inl ⟨rfl, ?_⟩; intro wq hq; obtain ⟨⟨a0, a1⟩, b0, b1⟩ := HS.out wq hq; go_simp; try with_reducible rfl)
            simp only [Act.put, List.setIfInBounds_toArray, List.set_cons_zero, List.set_cons_succ]
            refine wpAnyH_take (i := 8) (oi := ?p8qx) (v := ?v8qx) ?o8qx (by kernel_rfl) (by kernel_rfl) (by kernel_rfl) ?q8qx ?y8qx hHeld ?r8qx
            case o8qx => simp only [List.getElem?_toArray, List.getElem?_cons_succ, List.getElem?_cons_zero]; rfl
            case q8qx => exact fun _ _ _ h => h
            case y8qx => (refine Or.inl ⟨rfl, ?_⟩; intro wq hq; obtain ⟨⟨a0, a1⟩, b0, b1⟩ := HS.out wq hq; go_simp; try with_reducible rfl)
            simp only [Act.put, List.setIfInBounds_toArray, List.set_cons_zero, List.set_cons_succ]
            refine wpAnyH_take (i := 9) (oi := ?p9qx) (v := ?v9qx) ?o9qx (by kernel_rfl) (by kernel_rfl) (by kernel_rfl) ?q9qx ?y9qx hHeld ?r9qx
            case o9qx => simp only [List.getElem?_toArray, List.getElem?_cons_succ, List.getElem?_cons_zero]; rfl
            case q9qx => exact fun _ _ _ h => h
            case y9qx => (refine Or.inl ⟨rfl, ?_⟩; intro wq hq; obtain ⟨⟨a0, a1⟩, b0, b1⟩ := HS.out wq hq; go_simp; try with_reducible rfl)
            simp only [Act.put, List.setIfInBounds_toArray, List.set_cons_zero, List.set_cons_succ]
            refine wpAnyH_take (i := 10) (oi := ?p10qx) (v := ?v10qx) ?o10qx (by kernel_rfl) (by kernel_rfl) (by kernel_rfl) ?q10qx ?y10qx hHeld ?r10qx
            case o10qx => simp only [List.getElem?_toArray, List.getElem?_cons_succ, List.getElem?_cons_zero]; rfl
            case q10qx => exact fun _ _ _ h => h
            case y10qx => (refine Or.inl ⟨rfl, ?_⟩; intro wq hq; obtain ⟨⟨a0, a1⟩, b0, b1⟩ := HS.out wq hq; go_simp; try with_reducible rfl)
            simp only [Act.put, List.setIfInBounds_toArray, List.set_cons_zero, List.set_cons_succ]
            refine wpAnyH_take (i := 11) (oi := ?p11qx) (v := ?v11qx) ?o11qx (by kernel_rfl) (by kernel_rfl) (by kernel_rfl) ?q11qx ?y11qx hHeld ?r11qx
            case o11qx => simp only [List.getElem?_toArray, List.getElem?_cons_succ, List.getElem?_cons_zero]; rfl
            case q11qx => exact fun _ _ _ h => h
            case y11qx => (refine Or.inl ⟨rfl, ?_⟩; intro wq hq; obtain ⟨⟨a0, a1⟩, b0, b1⟩ := HS.out wq hq; go_simp; try with_reducible rfl)
            simp only [Act.put, List.setIfInBounds_toArray, List.set_cons_zero, List.set_cons_succ]
            refine wpAnyH_take (i := 12) (oi := ?p12qx) (v := ?v12qx) ?o12qx (by kernel_rfl) (by kernel_rfl) (by kernel_rfl) ?q12qx ?y12qx hHeld ?r12qx
            case o12qx => simp only [List.getElem?_toArray, List.getElem?_cons_succ, List.getElem?_cons_zero]; rfl
            case q12qx => exact fun _ _ _ h => h
            case y12qx => (refine Or.inl ⟨rfl, ?_⟩; intro wq hq; obtain ⟨⟨a0, a1⟩, b0, b1⟩ := HS.out wq hq; go_simp; try with_reducible rfl)
            simp only [Act.put, List.setIfInBounds_toArray, List.set_cons_zero, List.set_cons_succ]
            refine wpAnyH_take (i := 13) (oi := ?p13qx) (v := ?v13qx) ?o13qx (by kernel_rfl) (by kernel_rfl) (by kernel_rfl) ?q13qx ?y13qx hHeld ?r13qx
            case o13qx => simp only [List.getElem?_toArray, List.getElem?_cons_succ, List.getElem?_cons_zero]; rfl
            case q13qx => exact fun _ _ _ h => h
            case y13qx => (refine Or.inl ⟨rfl, ?_⟩; intro wq hq; obtain ⟨⟨a0, a1⟩, b0, b1⟩ := HS.out wq hq; go_simp; try with_reducible rfl)
            simp only [Act.put, List.setIfInBounds_toArray, List.set_cons_zero, List.set_cons_succ]
            refine wpAnyH_take (i := 14) (oi := ?p14qx) (v := ?v14qx) ?o14qx (by kernel_rfl) (by kernel_rfl) (by kernel_rfl) ?q14qx ?y14qx hHeld ?r14qx
            case o14qx => simp only [List.getElem?_toArray, List.getElem?_cons_succ, List.getElem?_cons_zero]; rfl
            case q14qx => exact fun _ _ _ h => h
            case y14qx => (refine Or.inl ⟨rfl, ?_⟩; intro wq hq; obtain ⟨⟨a0, a1⟩, b0, b1⟩ := HS.out wq hq; go_simp; try with_reducible rfl)
            simp only [Act.put, List.setIfInBounds_toArray, List.set_cons_zero, List.set_cons_succ]
            refine wpAnyH_take (i := 15) (oi := ?p15qx) (v := ?v15qx) ?o15qx (by kernel_rfl) (by kernel_rfl) (by kernel_rfl) ?q15qx ?y15qx hHeld ?r15qx
            case o15qx => simp only [List.getElem?_toArray, List.getElem?_cons_succ, List.getElem?_cons_zero]; rfl
            case q15qx => exact fun _ _ _ h => h
            case y15qx => (refine Or.inl ⟨rfl, ?_⟩; intro wq hq; obtain ⟨⟨a0, a1⟩, b0, b1⟩ := HS.out wq hq; go_simp; try with_reducible rfl)
            simp only [Act.put, List.setIfInBounds_toArray, List.set_cons_zero, List.set_cons_succ]
            refine wpAnyH_take (i := 16) (oi := ?p16qx) (v := ?v16qx) ?o16qx (by kernel_rfl) (by kernel_rfl) (by kernel_rfl) ?q16qx ?y16qx hHeld ?r16qx
            case o16qx => simp only [List.getElem?_toArray, List.getElem?_cons_succ, List.getElem?_cons_zero]; rfl
            case q16qx => exact fun _ _ _ h => h
            case y16qx => (refine Or.inl ⟨rfl, ?_⟩; intro wq hq; obtain ⟨⟨a0, a1⟩, b0, b1⟩ := HS.out wq hq; go_simp; try with_reducible rfl)
            simp only [Act.put, List.setIfInBounds_toArray, List.set_cons_zero, List.set_cons_succ]
            refine wpAnyH_take (i := 17) (oi := ?p17qx) (v := ?v17qx) ?o17qx (by kernel_rfl) (by kernel_rfl) (by kernel_rfl) ?q17qx ?y17qx hHeld ?r17qx
            case o17qx => simp only [List.getElem?_toArray, List.getElem?_cons_succ, List.getElem?_cons_zero]; rfl
            case q17qx => exact fun _ _ _ h => h
            case y17qx => (refine Or.inl ⟨rfl, ?_⟩; intro wq hq; obtain ⟨⟨a0, a1⟩, b0, b1⟩ := HS.out wq hq; go_simp; try with_reducible rfl)
            simp only [Act.put, List.setIfInBounds_toArray, List.set_cons_zero, List.set_cons_succ]
            refine wpAnyH_take (i := 18) (oi := ?p18qx) (v := ?v18qx) ?o18qx (by kernel_rfl) (by kernel_rfl) (by kernel_rfl) ?q18qx ?y18qx hHeld ?r18qx
            case o18qx => simp only [List.getElem?_toArray, List.getElem?_cons_succ, List.getElem?_cons_zero]; rfl
            case q18qx => exact fun _ _ _ h => h
            case y18qx => (refine Or.inl ⟨rfl, ?_⟩; intro wq hq; obtain ⟨⟨a0, a1⟩, b0, b1⟩ := HS.out wq hq; go_simp; try with_reducible rfl)
            simp only [Act.put, List.setIfInBounds_toArray, List.set_cons_zero, List.set_cons_succ]
            refine wpAnyH_take (i := 19) (oi := ?p19qx) (v := ?v19qx) ?o19qx (by kernel_rfl) (by kernel_rfl) (by kernel_rfl) ?q19qx ?y19qx hHeld ?r19qx
            case o19qx => simp only [List.getElem?_toArray, List.getElem?_cons_succ, List.getElem?_cons_zero]; rfl
            case q19qx => exact fun _ _ _ h => h
            case y19qx => (refine Or.inl ⟨rfl, ?_⟩; intro wq hq; obtain ⟨⟨a0, a1⟩, b0, b1⟩ := HS.out wq hq; go_simp; try with_reducible rfl)
            simp only [Act.put, List.setIfInBounds_toArray, List.set_cons_zero, List.set_cons_succ]
            refine wpAnyH_take (i := 20) (oi := ?p20qx) (v := ?v20qx) ?o20qx (by kernel_rfl) (by kernel_rfl) (by kernel_rfl) ?q20qx ?y20qx hHeld ?r20qx
            case o20qx => simp only [List.getElem?_toArray, List.getElem?_cons_succ, List.getElem?_cons_zero]; rfl
            case q20qx => exact fun _ _ _ h => h
            case y20qx => (refine Or.inl ⟨rfl, ?_⟩; intro wq hq; obtain ⟨⟨a0, a1⟩, b0, b1⟩ := HS.out wq hq; go_simp; try with_reducible rfl)
            simp only [Act.put, List.setIfInBounds_toArray, List.set_cons_zero, List.set_cons_succ]
            refine wpAnyH_take (i := 21) (oi := ?p21qx) (v := ?v21qx) ?o21qx (by kernel_rfl) (by kernel_rfl) (by kernel_rfl) ?q21qx ?y21qx hHeld ?r21qx
            case o21qx => simp only [List.getElem?_toArray, List.getElem?_cons_succ, List.getElem?_cons_zero]; rfl
            case q21qx => exact fun _ _ _ h => h
            case y21qx => (refine Or.inl ⟨rfl, ?_⟩; intro wq hq; obtain ⟨⟨a0, a1⟩, b0, b1⟩ := HS.out wq hq; go_simp; try with_reducible rfl)
            simp only [Act.put, List.setIfInBounds_toArray, List.set_cons_zero, List.set_cons_succ]
            refine wpAnyH_take (i := 22) (oi := ?p22qx) (v := ?v22qx) ?o22qx (by kernel_rfl) (by kernel_rfl) (by kernel_rfl) ?q22qx ?y22qx hHeld ?r22qx
            case o22qx => simp only [List.getElem?_toArray, List.getElem?_cons_succ, List.getElem?_cons_zero]; rfl
            case q22qx => exact fun _ _ _ h => h
            case y22qx => (refine Or.inl ⟨rfl, ?_⟩; intro wq hq; obtain ⟨⟨a0, a1⟩, b0, b1⟩ := HS.out wq hq; go_simp; try with_reducible rfl)
            simp only [Act.put, List.setIfInBounds_toArray, List.set_cons_zero, List.set_cons_succ]
            refine wpAnyH_take (i := 23) (oi := ?p23qx) (v := undef) ?o23qx (by kernel_rfl) (by kernel_rfl) (by kernel_rfl) ?q23qx ?y23qx hHeld ?r23qx
            case o23qx => simp only [List.getElem?_toArray, List.getElem?_cons_succ, List.getElem?_cons_zero]; rfl
            case q23qx => exact fun _ _ _ h => h
            case y23qx => exact Or.inr ⟨rfl, rfl⟩
            simp only [Act.put, List.setIfInBounds_toArray, List.set_cons_zero, List.set_cons_succ]
            refine wpAnyH_take (i := 24) (oi := ?p24qx) (v := undef) ?o24qx (by kernel_rfl) (by kernel_rfl) (by kernel_rfl) ?q24qx ?y24qx hHeld ?r24qx
            case o24qx => simp only [List.getElem?_toArray, List.getElem?_cons_succ, List.getElem?_cons_zero]; rfl
            case q24qx => exact fun _ _ _ h => h
            case y24qx => exact Or.inr ⟨rfl, rfl⟩
            simp only [Act.put, List.setIfInBounds_toArray, List.set_cons_zero, List.set_cons_succ]
            refine wpAnyH_take (i := 25) (oi := ?p25qx) (v := undef) ?o25qx (by kernel_rfl) (by kernel_rfl) (by kernel_rfl) ?q25qx ?y25qx hHeld ?r25qx
            case o25qx => simp only [List.getElem?_toArray, List.getElem?_cons_succ, List.getElem?_cons_zero]; rfl
            case q25qx => exact fun _ _ _ h => h
            case y25qx => exact Or.inr ⟨rfl, rfl⟩
            simp only [Act.put, List.setIfInBounds_toArray, List.set_cons_zero, List.set_cons_succ]
            refine wpAnyH_take (i := 26) (oi := ?p26qx) (v := ?v26qx) ?o26qx (by kernel_rfl) (by kernel_rfl) (by kernel_rfl) ?q26qx ?y26qx hHeld ?r26qx
            case o26qx => simp only [List.getElem?_toArray, List.getElem?_cons_succ, List.getElem?_cons_zero]; rfl
            case q26qx => exact fun _ _ _ h => h
            case y26qx => (refine Or.inl ⟨rfl, ?_⟩; intro wq hq; obtain ⟨⟨a0, a1⟩, b0, b1⟩ := HS.out wq hq; go_simp; try with_reducible rfl)
            simp only [Act.put, List.setIfInBounds_toArray, List.set_cons_zero, List.set_cons_succ]
            refine wpAnyH_take (i := 27) (oi := ?p27qx) (v := ?v27qx) ?o27qx (by kernel_rfl) (by kernel_rfl) (by kernel_rfl) ?q27qx ?y27qx hHeld ?r27qx
            case o27qx => simp only [List.getElem?_toArray, List.getElem?_cons_succ, List.getElem?_cons_zero]; rfl
            case q27qx => exact fun _ _ _ h => h
            case y27qx => (refine Or.inl ⟨rfl, ?_⟩; intro wq hq; obtain ⟨⟨a0, a1⟩, b0, b1⟩ := HS.out wq hq; go_simp; try with_reducible rfl)
            simp only [Act.put, List.setIfInBounds_toArray, List.set_cons_zero, List.set_cons_succ]
            refine wpAnyH_take (i := 28) (oi := ?p28qx) (v := ?v28qx) ?o28qx (by kernel_rfl) (by kernel_rfl) (by kernel_rfl) ?q28qx ?y28qx hHeld ?r28qx
            case o28qx => simp only [List.getElem?_toArray, List.getElem?_cons_succ, List.getElem?_cons_zero]; rfl
            case q28qx => exact fun _ _ _ h => h
            case y28qx => (refine Or.inl ⟨rfl, ?_⟩; intro wq hq; obtain ⟨⟨a0, a1⟩, b0, b1⟩ := HS.out wq hq; go_simp; try with_reducible rfl)
            simp only [Act.put, List.setIfInBounds_toArray, List.set_cons_zero, List.set_cons_succ]
            refine wpAnyH_take (i := 29) (oi := ?p29qx) (v := ?v29qx) ?o29qx (by kernel_rfl) (by kernel_rfl) (by kernel_rfl) ?q29qx ?y29qx hHeld ?r29qx
            case o29qx => simp only [List.getElem?_toArray, List.getElem?_cons_succ, List.getElem?_cons_zero]; rfl
            case q29qx => exact fun _ _ _ h => h
            case y29qx => (refine Or.inl ⟨rfl, ?_⟩; intro wq hq; obtain ⟨⟨a0, a1⟩, b0, b1⟩ := HS.out wq hq; go_simp; try with_reducible rfl)
            simp only [Act.put, List.setIfInBounds_toArray, List.set_cons_zero, List.set_cons_succ]
            refine wpAnyH_take (i := 31) (oi := ?p31qx) (v := ?v31qx) ?o31qx (by kernel_rfl) (by kernel_rfl) (by kernel_rfl) ?q31qx ?y31qx hHeld ?r31qx
            case o31qx => simp only [List.getElem?_toArray, List.getElem?_cons_succ, List.getElem?_cons_zero]; rfl
            case q31qx => exact fun _ _ _ h => h
            case y31qx => (refine Or.inl ⟨rfl, ?_⟩; intro wq hq; obtain ⟨⟨a0, a1⟩, b0, b1⟩ := HS.out wq hq; go_simp; try with_reducible rfl)
            simp only [Act.put, List.setIfInBounds_toArray, List.set_cons_zero, List.set_cons_succ]
            refine wpAnyH_take (i := 32) (oi := ?p32qx) (v := ?v32qx) ?o32qx (by kernel_rfl) (by kernel_rfl) (by kernel_rfl) ?q32qx ?y32qx hHeld ?r32qx
            case o32qx => simp only [List.getElem?_toArray, List.getElem?_cons_succ, List.getElem?_cons_zero]; rfl
            case q32qx => exact fun _ _ _ h => h
            case y32qx => (refine Or.inl ⟨rfl, ?_⟩; intro wq hq; obtain ⟨⟨a0, a1⟩, b0, b1⟩ := HS.out wq hq; go_simp; try with_reducible rfl)
            simp only [Act.put, List.setIfInBounds_toArray, List.set_cons_zero, List.set_cons_succ]
            refine wpAnyH_ready (rs := [30]) (by kernel_rfl) (by simp) ?_
            refine AllReadyH.cons (o := ?p30qx) ?o30qx ?s30qx AllReadyH.nil
            case o30qx => simp only [List.getElem?_toArray, List.getElem?_cons_succ, List.getElem?_cons_zero]; rfl
            intro K hK
            go_simp
            refine (HM.out _ hHeld).ts.len.mono ?_
            rintro e wA ⟨rfl, rfl⟩
            refine hK.out _ _ hHeld (fun hHeld => ?_)
            clear hK K
            refine wpAnyH_take (i := 33) (oi := ?p33qx) (v := ?v33qx) ?o33qx (by kernel_rfl) (by kernel_rfl) (by kernel_rfl) ?q33qx ?y33qx hHeld ?r33qx
            case o33qx => simp only [List.getElem?_toArray, List.getElem?_cons_succ, List.getElem?_cons_zero]; rfl
            case q33qx => exact fun _ _ _ h => h
            case y33qx => (refine Or.inl ⟨rfl, ?_⟩; intro wq hq; obtain ⟨⟨a0, a1⟩, b0, b1⟩ := HS.out wq hq; go_simp; try with_reducible rfl)
            simp only [Act.put, List.setIfInBounds_toArray, List.set_cons_zero, List.set_cons_succ]
            refine wpAnyH_take (i := 34) (oi := ?p34qx) (v := ?v34qx) ?o34qx (by kernel_rfl) (by kernel_rfl) (by kernel_rfl) ?q34qx ?y34qx hHeld ?r34qx
            case o34qx => simp only [List.getElem?_toArray, List.getElem?_cons_succ, List.getElem?_cons_zero]; rfl
            case q34qx => exact fun _ _ _ h => h
            case y34qx => (refine Or.inl ⟨rfl, ?_⟩; intro wq hq; obtain ⟨⟨a0, a1⟩, b0, b1⟩ := HS.out wq hq; go_simp; try with_reducible rfl)
            simp only [Act.put, List.setIfInBounds_toArray, List.set_cons_zero, List.set_cons_succ]
            refine wpAnyH_take (i := 35) (oi := ?p35qx) (v := ?v35qx) ?o35qx (by kernel_rfl) (by kernel_rfl) (by kernel_rfl) ?q35qx ?y35qx hHeld ?r35qx
            case o35qx => simp only [List.getElem?_toArray, List.getElem?_cons_succ, List.getElem?_cons_zero]; rfl
            case q35qx => exact fun _ _ _ h => h
            case y35qx => (refine Or.inl ⟨rfl, ?_⟩; intro wq hq; obtain ⟨⟨a0, a1⟩, b0, b1⟩ := HS.out wq hq; go_simp; try with_reducible rfl)
            simp only [Act.put, List.setIfInBounds_toArray, List.set_cons_zero, List.set_cons_succ]
            refine wpAnyH_take (i := 36) (oi := ?p36qx) (v := ?v36qx) ?o36qx (by kernel_rfl) (by kernel_rfl) (by kernel_rfl) ?q36qx ?y36qx hHeld ?r36qx
            case o36qx => simp only [List.getElem?_toArray, List.getElem?_cons_succ, List.getElem?_cons_zero]; rfl
            case q36qx => exact fun _ _ _ h => h
            case y36qx => (refine Or.inl ⟨rfl, ?_⟩; intro wq hq; obtain ⟨⟨a0, a1⟩, b0, b1⟩ := HS.out wq hq; go_simp; try with_reducible rfl)
            simp only [Act.put, List.setIfInBounds_toArray, List.set_cons_zero, List.set_cons_succ]
            refine wpAnyH_take (i := 38) (oi := ?p38qx) (v := ?v38qx) ?o38qx (by kernel_rfl) (by kernel_rfl) (by kernel_rfl) ?q38qx ?y38qx hHeld ?r38qx
            case o38qx => simp only [List.getElem?_toArray, List.getElem?_cons_succ, List.getElem?_cons_zero]; rfl
            case q38qx => exact fun _ _ _ h => h
            case y38qx => (refine Or.inl ⟨rfl, ?_⟩; intro wq hq; obtain ⟨⟨a0, a1⟩, b0, b1⟩ := HS.out wq hq; go_simp; try with_reducible rfl)
            simp only [Act.put, List.setIfInBounds_toArray, List.set_cons_zero, List.set_cons_succ]
            refine wpAnyH_ready (rs := [37]) (by kernel_rfl) (by simp) ?_
            refine AllReadyH.cons (o := ?p37qx) ?o37qx ?s37qx AllReadyH.nil
            case o37qx => simp only [List.getElem?_toArray, List.getElem?_cons_succ, List.getElem?_cons_zero]; rfl
            intro K hK
            go_simp
            refine (HM.out _ hHeld).ts.all.mono ?_
            rintro e wB ⟨aB, cB, rfl, atB, _, BB, _⟩
            have BB2 := bel_up hHeld BB (Nat.le_refl _)
            have HAB := Hid_of atB
            clear BB atB
            refine hK.out _ _ BB2 (fun hHeld => ?_)
            clear hK K
            refine wpAnyH_ready (rs := [39]) (by kernel_rfl) (by simp) ?_
            refine AllReadyH.cons (o := ?p39qx) ?o39qx ?s39qx AllReadyH.nil
            case o39qx => simp only [List.getElem?_toArray, List.getElem?_cons_succ, List.getElem?_cons_zero]; rfl
            intro K hK
            go_simp
            have hsm := same_any aB cB (some ⟨bx, ox, none⟩) cy P3 _ (by omega) HAB.out (HM.out _ hHeld).y.at'
            refine hsm.mono ?_
            rintro e wC ⟨rfl, BC⟩
            have BC2 := bel_up hHeld BC (Nat.le_refl _)
            clear BC hsm
            refine hK.out _ _ BC2 (fun hHeld => ?_)
            clear hK K
            refine wpAnyH_take (i := 40) (oi := ?p40qx) (v := ?v40qx) ?o40qx (by kernel_rfl) (by kernel_rfl) (by kernel_rfl) ?q40qx ?y40qx hHeld ?r40qx
            case o40qx => simp only [List.getElem?_toArray, List.getElem?_cons_succ, List.getElem?_cons_zero]; rfl
            case q40qx => exact fun _ _ _ h => h
            case y40qx => (refine Or.inl ⟨rfl, ?_⟩; intro wq hq; obtain ⟨⟨a0, a1⟩, b0, b1⟩ := HS.out wq hq; go_simp; try with_reducible rfl)
            simp only [Act.put, List.setIfInBounds_toArray, List.set_cons_zero, List.set_cons_succ]
            refine wpAnyH_take (i := 41) (oi := ?p41qx) (v := ?v41qx) ?o41qx (by kernel_rfl) (by kernel_rfl) (by kernel_rfl) ?q41qx ?y41qx hHeld ?r41qx
            case o41qx => simp only [List.getElem?_toArray, List.getElem?_cons_succ, List.getElem?_cons_zero]; rfl
            case q41qx => exact fun _ _ _ h => h
            case y41qx => (refine Or.inl ⟨rfl, ?_⟩; intro wq hq; obtain ⟨⟨a0, a1⟩, b0, b1⟩ := HS.out wq hq; go_simp; try with_reducible rfl)
            simp only [Act.put, List.setIfInBounds_toArray, List.set_cons_zero, List.set_cons_succ]
            refine wpAnyH_done (by kernel_rfl) ?_ _
            go_wp2
            go_roundw
            case rel => exact ⟨k + 1, P3, v3, (some ⟨bx, ox, none⟩), cy, by omega, rfl, by go_num, (HM.out _ hHeld)⟩
            case measure => simp [intOf]; omega
          · have hP0 : P3 = [] := List.length_eq_zero_iff.1 (by omega)
            have HPZ := Hid_of hP0
            rw [hP0, show hdB [] = false from rfl, show hdV [] = .agg #[.int .i64 0, .int .i64 0] from rfl] at hnx
            have hl0 : P3.length = 0 := by omega
            rw [hl0]
            clear hpos hP0
            go_wp2_with fail
            refine hnx.mono ?_
            rintro e w20 ⟨rfl, B20, _⟩
            have HBW : Hid (Below w3.heap.size w3 (w20.alloc (.cells #[.int .i64 0, .int .i64 0] 42))) := bel_up B20 (bel1 w20 _) (Nat.le_refl _)
            have HRW : Hid ((w20.alloc (.cells #[.int .i64 0, .int .i64 0] 42)).heap[w20.heap.size]? = some (.cells #[.int .i64 0, .int .i64 0] 42 (0, 0)) ∧ w20.heap.size < (w20.alloc (.cells #[.int .i64 0, .int .i64 0] 42)).heap.size) := ⟨heap_alloc_last _ _, by simp⟩
            obtain ⟨W4, HW4⟩ : ∃ W4, Hid (w20.alloc (.cells #[.int .i64 0, .int .i64 0] 42) = W4) := ⟨_, rfl⟩
            rw [HW4.out] at HBW HRW
            have HS : Hid (∀ wq, Below W4.heap.size W4 wq → (wq.cell? ⟨w20.heap.size, 0, none⟩ = some (.int .i64 0) ∧ wq.cell? ⟨w20.heap.size, 1, none⟩ = some (.int .i64 0)) ∧ True) := fun wq hq => ⟨(row2 ((hq.block _ HRW.out.2).trans HRW.out.1)).1, trivial⟩
            have HM : Hid (∀ wq, Below W4.heap.size W4 wq → PX w wq b v3 P3 ay) := fun wq hq => HP.out.keep (bel_up HBW.out hq (Nat.le_refl _))
            clear B20 hnx HP HRW HBW
            go_wp2_with fail
            rw [HW4.out]
            clear HW4
            refine wp_region_held_drew (S := fun wq => Below (W4).heap.size (W4) wq) (by kernel_rfl) (Below.drew (Below.refl _ _)) (fun hHeld => ?_)
            refine wpAnyH_take (i := 0) (oi := ?p0qy) (v := ?v0qy) ?o0qy (by kernel_rfl) (by kernel_rfl) (by kernel_rfl) ?q0qy ?y0qy hHeld ?r0qy
            case o0qy => simp only [List.getElem?_toArray, List.getElem?_cons_zero]; rfl
            case q0qy => exact fun _ _ _ h => h
            case y0qy => (refine Or.inl ⟨rfl, ?_⟩; intro wq hq; obtain ⟨⟨a0, a1⟩, _⟩ := HS.out wq hq; go_simp; try with_reducible rfl)
            simp only [Act.put, List.setIfInBounds_toArray, List.set_cons_zero, List.set_cons_succ]
            refine wpAnyH_take (i := 1) (oi := ?p1qy) (v := ?v1qy) ?o1qy (by kernel_rfl) (by kernel_rfl) (by kernel_rfl) ?q1qy ?y1qy hHeld ?r1qy
            case o1qy => simp only [List.getElem?_toArray, List.getElem?_cons_succ, List.getElem?_cons_zero]; rfl
            case q1qy => exact fun _ _ _ h => h
            case y1qy => (refine Or.inl ⟨rfl, ?_⟩; intro wq hq; obtain ⟨⟨a0, a1⟩, _⟩ := HS.out wq hq; go_simp; try with_reducible rfl)
            simp only [Act.put, List.setIfInBounds_toArray, List.set_cons_zero, List.set_cons_succ]
            refine wpAnyH_take (i := 2) (oi := ?p2qy) (v := ?v2qy) ?o2qy (by kernel_rfl) (by kernel_rfl) (by kernel_rfl) ?q2qy ?y2qy hHeld ?r2qy
            case o2qy => simp only [List.getElem?_toArray, List.getElem?_cons_succ, List.getElem?_cons_zero]; rfl
            case q2qy => exact fun _ _ _ h => h
            case y2qy => (refine Or.inl ⟨rfl, ?_⟩; intro wq hq; obtain ⟨⟨a0, a1⟩, _⟩ := HS.out wq hq; go_simp; try with_reducible rfl)
            simp only [Act.put, List.setIfInBounds_toArray, List.set_cons_zero, List.set_cons_succ]
            refine wpAnyH_take (i := 3) (oi := ?p3qy) (v := ?v3qy) ?o3qy (by kernel_rfl) (by kernel_rfl) (by kernel_rfl) ?q3qy ?y3qy hHeld ?r3qy
            case o3qy => simp only [List.getElem?_toArray, List.getElem?_cons_succ, List.getElem?_cons_zero]; rfl
            case q3qy => exact fun _ _ _ h => h
            case y3qy => (refine Or.inl ⟨rfl, ?_⟩; intro wq hq; obtain ⟨⟨a0, a1⟩, _⟩ := HS.out wq hq; go_simp; try with_reducible rfl)
            simp only [Act.put, List.setIfInBounds_toArray, List.set_cons_zero, List.set_cons_succ]
            refine wpAnyH_take (i := 4) (oi := ?p4qy) (v := ?v4qy) ?o4qy (by kernel_rfl) (by kernel_rfl) (by kernel_rfl) ?q4qy ?y4qy hHeld ?r4qy
            case o4qy => simp only [List.getElem?_toArray, List.getElem?_cons_succ, List.getElem?_cons_zero]; rfl
            case q4qy => exact fun _ _ _ h => h
            case y4qy => (refine Or.inl ⟨rfl, ?_⟩; intro wq hq; obtain ⟨⟨a0, a1⟩, _⟩ := HS.out wq hq; go_simp; try with_reducible rfl)
            simp only [Act.put, List.setIfInBounds_toArray, List.set_cons_zero, List.set_cons_succ]
            refine wpAnyH_take (i := 5) (oi := ?p5qy) (v := ?v5qy) ?o5qy (by kernel_rfl) (by kernel_rfl) (by kernel_rfl) ?q5qy ?y5qy hHeld ?r5qy
            case o5qy => simp only [List.getElem?_toArray, List.getElem?_cons_succ, List.getElem?_cons_zero]; rfl
            case q5qy => exact fun _ _ _ h => h
            case y5qy => (refine Or.inl ⟨rfl, ?_⟩; intro wq hq; obtain ⟨⟨a0, a1⟩, _⟩ := HS.out wq hq; go_simp; try with_reducible rfl)
            simp only [Act.put, List.setIfInBounds_toArray, List.set_cons_zero, List.set_cons_succ]
            refine wpAnyH_take (i := 6) (oi := ?p6qy) (v := ?v6qy) ?o6qy (by kernel_rfl) (by kernel_rfl) (by kernel_rfl) ?q6qy ?y6qy hHeld ?r6qy
            case o6qy => simp only [List.getElem?_toArray, List.getElem?_cons_succ, List.getElem?_cons_zero]; rfl
            case q6qy => exact fun _ _ _ h => h
            case y6qy => (refine Or.inl ⟨rfl, ?_⟩; intro wq hq; obtain ⟨⟨a0, a1⟩, _⟩ := HS.out wq hq; go_simp; try with_reducible rfl)
            simp only [Act.put, List.setIfInBounds_toArray, List.set_cons_zero, List.set_cons_succ]
            refine wpAnyH_take (i := 7) (oi := ?p7qy) (v := ?v7qy) ?o7qy (by kernel_rfl) (by kernel_rfl) (by kernel_rfl) ?q7qy ?y7qy hHeld ?r7qy
            case o7qy => simp only [List.getElem?_toArray, List.getElem?_cons_succ, List.getElem?_cons_zero]; rfl
            case q7qy => exact fun _ _ _ h => h
            case y7qy => (refine Or.inl ⟨rfl, ?_⟩; intro wq hq; obtain ⟨⟨a0, a1⟩, _⟩ := HS.out wq hq; go_simp; try with_reducible rfl)
            simp only [Act.put, List.setIfInBounds_toArray, List.set_cons_zero, List.set_cons_succ]
            refine wpAnyH_take (i := 8) (oi := ?p8qy) (v := ?v8qy) ?o8qy (by kernel_rfl) (by kernel_rfl) (by kernel_rfl) ?q8qy ?y8qy hHeld ?r8qy
            case o8qy => simp only [List.getElem?_toArray, List.getElem?_cons_succ, List.getElem?_cons_zero]; rfl
            case q8qy => exact fun _ _ _ h => h
            case y8qy => (refine Or.inl ⟨rfl, ?_⟩; intro wq hq; obtain ⟨⟨a0, a1⟩, _⟩ := HS.out wq hq; go_simp; try with_reducible rfl)
            simp only [Act.put, List.setIfInBounds_toArray, List.set_cons_zero, List.set_cons_succ]
            refine wpAnyH_take (i := 9) (oi := ?p9qy) (v := ?v9qy) ?o9qy (by kernel_rfl) (by kernel_rfl) (by kernel_rfl) ?q9qy ?y9qy hHeld ?r9qy
            case o9qy => simp only [List.getElem?_toArray, List.getElem?_cons_succ, List.getElem?_cons_zero]; rfl
            case q9qy => exact fun _ _ _ h => h
            case y9qy => (refine Or.inl ⟨rfl, ?_⟩; intro wq hq; obtain ⟨⟨a0, a1⟩, _⟩ := HS.out wq hq; go_simp; try with_reducible rfl)
            simp only [Act.put, List.setIfInBounds_toArray, List.set_cons_zero, List.set_cons_succ]
            refine wpAnyH_take (i := 10) (oi := ?p10qy) (v := ?v10qy) ?o10qy (by kernel_rfl) (by kernel_rfl) (by kernel_rfl) ?q10qy ?y10qy hHeld ?r10qy
            case o10qy => simp only [List.getElem?_toArray, List.getElem?_cons_succ, List.getElem?_cons_zero]; rfl
            case q10qy => exact fun _ _ _ h => h
            case y10qy => (refine Or.inl ⟨rfl, ?_⟩; intro wq hq; obtain ⟨⟨a0, a1⟩, _⟩ := HS.out wq hq; go_simp; try with_reducible rfl)
            simp only [Act.put, List.setIfInBounds_toArray, List.set_cons_zero, List.set_cons_succ]
            refine wpAnyH_take (i := 11) (oi := ?p11qy) (v := ?v11qy) ?o11qy (by kernel_rfl) (by kernel_rfl) (by kernel_rfl) ?q11qy ?y11qy hHeld ?r11qy
            case o11qy => simp only [List.getElem?_toArray, List.getElem?_cons_succ, List.getElem?_cons_zero]; rfl
            case q11qy => exact fun _ _ _ h => h
            case y11qy => (refine Or.inl ⟨rfl, ?_⟩; intro wq hq; obtain ⟨⟨a0, a1⟩, _⟩ := HS.out wq hq; go_simp; try with_reducible rfl)
            simp only [Act.put, List.setIfInBounds_toArray, List.set_cons_zero, List.set_cons_succ]
            refine wpAnyH_take (i := 12) (oi := ?p12qy) (v := undef) ?o12qy (by kernel_rfl) (by kernel_rfl) (by kernel_rfl) ?q12qy ?y12qy hHeld ?r12qy
            case o12qy => simp only [List.getElem?_toArray, List.getElem?_cons_succ, List.getElem?_cons_zero]; rfl
            case q12qy => exact fun _ _ _ h => h
            case y12qy => exact Or.inr ⟨rfl, rfl⟩
            simp only [Act.put, List.setIfInBounds_toArray, List.set_cons_zero, List.set_cons_succ]
            refine wpAnyH_take (i := 13) (oi := ?p13qy) (v := undef) ?o13qy (by kernel_rfl) (by kernel_rfl) (by kernel_rfl) ?q13qy ?y13qy hHeld ?r13qy
            case o13qy => simp only [List.getElem?_toArray, List.getElem?_cons_succ, List.getElem?_cons_zero]; rfl
            case q13qy => exact fun _ _ _ h => h
            case y13qy => exact Or.inr ⟨rfl, rfl⟩
            simp only [Act.put, List.setIfInBounds_toArray, List.set_cons_zero, List.set_cons_succ]
            refine wpAnyH_take (i := 14) (oi := ?p14qy) (v := undef) ?o14qy (by kernel_rfl) (by kernel_rfl) (by kernel_rfl) ?q14qy ?y14qy hHeld ?r14qy
            case o14qy => simp only [List.getElem?_toArray, List.getElem?_cons_succ, List.getElem?_cons_zero]; rfl
            case q14qy => exact fun _ _ _ h => h
            case y14qy => exact Or.inr ⟨rfl, rfl⟩
            simp only [Act.put, List.setIfInBounds_toArray, List.set_cons_zero, List.set_cons_succ]
            refine wpAnyH_take (i := 15) (oi := ?p15qy) (v := undef) ?o15qy (by kernel_rfl) (by kernel_rfl) (by kernel_rfl) ?q15qy ?y15qy hHeld ?r15qy
            case o15qy => simp only [List.getElem?_toArray, List.getElem?_cons_succ, List.getElem?_cons_zero]; rfl
            case q15qy => exact fun _ _ _ h => h
            case y15qy => exact Or.inr ⟨rfl, rfl⟩
            simp only [Act.put, List.setIfInBounds_toArray, List.set_cons_zero, List.set_cons_succ]
            refine wpAnyH_take (i := 16) (oi := ?p16qy) (v := undef) ?o16qy (by kernel_rfl) (by kernel_rfl) (by kernel_rfl) ?q16qy ?y16qy hHeld ?r16qy
            case o16qy => simp only [List.getElem?_toArray, List.getElem?_cons_succ, List.getElem?_cons_zero]; rfl
            case q16qy => exact fun _ _ _ h => h
            case y16qy => exact Or.inr ⟨rfl, rfl⟩
            simp only [Act.put, List.setIfInBounds_toArray, List.set_cons_zero, List.set_cons_succ]
            refine wpAnyH_take (i := 17) (oi := ?p17qy) (v := ?v17qy) ?o17qy (by kernel_rfl) (by kernel_rfl) (by kernel_rfl) ?q17qy ?y17qy hHeld ?r17qy
            case o17qy => simp only [List.getElem?_toArray, List.getElem?_cons_succ, List.getElem?_cons_zero]; rfl
            case q17qy => exact fun _ _ _ h => h
            case y17qy => (refine Or.inl ⟨rfl, ?_⟩; intro wq hq; obtain ⟨⟨a0, a1⟩, _⟩ := HS.out wq hq; go_simp; try with_reducible rfl)
            simp only [Act.put, List.setIfInBounds_toArray, List.set_cons_zero, List.set_cons_succ]
            refine wpAnyH_take (i := 18) (oi := ?p18qy) (v := ?v18qy) ?o18qy (by kernel_rfl) (by kernel_rfl) (by kernel_rfl) ?q18qy ?y18qy hHeld ?r18qy
            case o18qy => simp only [List.getElem?_toArray, List.getElem?_cons_succ, List.getElem?_cons_zero]; rfl
            case q18qy => exact fun _ _ _ h => h
            case y18qy => (refine Or.inl ⟨rfl, ?_⟩; intro wq hq; obtain ⟨⟨a0, a1⟩, _⟩ := HS.out wq hq; go_simp; try with_reducible rfl)
            simp only [Act.put, List.setIfInBounds_toArray, List.set_cons_zero, List.set_cons_succ]
            refine wpAnyH_take (i := 19) (oi := ?p19qy) (v := ?v19qy) ?o19qy (by kernel_rfl) (by kernel_rfl) (by kernel_rfl) ?q19qy ?y19qy hHeld ?r19qy
            case o19qy => simp only [List.getElem?_toArray, List.getElem?_cons_succ, List.getElem?_cons_zero]; rfl
            case q19qy => exact fun _ _ _ h => h
            case y19qy => (refine Or.inl ⟨rfl, ?_⟩; intro wq hq; obtain ⟨⟨a0, a1⟩, _⟩ := HS.out wq hq; go_simp; try with_reducible rfl)
            simp only [Act.put, List.setIfInBounds_toArray, List.set_cons_zero, List.set_cons_succ]
            refine wpAnyH_take (i := 20) (oi := ?p20qy) (v := ?v20qy) ?o20qy (by kernel_rfl) (by kernel_rfl) (by kernel_rfl) ?q20qy ?y20qy hHeld ?r20qy
            case o20qy => simp only [List.getElem?_toArray, List.getElem?_cons_succ, List.getElem?_cons_zero]; rfl
            case q20qy => exact fun _ _ _ h => h
            case y20qy => (refine Or.inl ⟨rfl, ?_⟩; intro wq hq; obtain ⟨⟨a0, a1⟩, _⟩ := HS.out wq hq; go_simp; try with_reducible rfl)
            simp only [Act.put, List.setIfInBounds_toArray, List.set_cons_zero, List.set_cons_succ]
            refine wpAnyH_take (i := 21) (oi := ?p21qy) (v := ?v21qy) ?o21qy (by kernel_rfl) (by kernel_rfl) (by kernel_rfl) ?q21qy ?y21qy hHeld ?r21qy
            case o21qy => simp only [List.getElem?_toArray, List.getElem?_cons_succ, List.getElem?_cons_zero]; rfl
            case q21qy => exact fun _ _ _ h => h
            case y21qy => (refine Or.inl ⟨rfl, ?_⟩; intro wq hq; obtain ⟨⟨a0, a1⟩, _⟩ := HS.out wq hq; go_simp; try with_reducible rfl)
            simp only [Act.put, List.setIfInBounds_toArray, List.set_cons_zero, List.set_cons_succ]
            refine wpAnyH_take (i := 22) (oi := ?p22qy) (v := ?v22qy) ?o22qy (by kernel_rfl) (by kernel_rfl) (by kernel_rfl) ?q22qy ?y22qy hHeld ?r22qy
            case o22qy => simp only [List.getElem?_toArray, List.getElem?_cons_succ, List.getElem?_cons_zero]; rfl
            case q22qy => exact fun _ _ _ h => h
            case y22qy => (refine Or.inl ⟨rfl, ?_⟩; intro wq hq; obtain ⟨⟨a0, a1⟩, _⟩ := HS.out wq hq; go_simp; try with_reducible rfl)
            simp only [Act.put, List.setIfInBounds_toArray, List.set_cons_zero, List.set_cons_succ]
            refine wpAnyH_take (i := 23) (oi := ?p23qy) (v := ?v23qy) ?o23qy (by kernel_rfl) (by kernel_rfl) (by kernel_rfl) ?q23qy ?y23qy hHeld ?r23qy
            case o23qy => simp only [List.getElem?_toArray, List.getElem?_cons_succ, List.getElem?_cons_zero]; rfl
            case q23qy => exact fun _ _ _ h => h
            case y23qy => (refine Or.inl ⟨rfl, ?_⟩; intro wq hq; obtain ⟨⟨a0, a1⟩, _⟩ := HS.out wq hq; go_simp; try with_reducible rfl)
            simp only [Act.put, List.setIfInBounds_toArray, List.set_cons_zero, List.set_cons_succ]
            refine wpAnyH_take (i := 24) (oi := ?p24qy) (v := ?v24qy) ?o24qy (by kernel_rfl) (by kernel_rfl) (by kernel_rfl) ?q24qy ?y24qy hHeld ?r24qy
            case o24qy => simp only [List.getElem?_toArray, List.getElem?_cons_succ, List.getElem?_cons_zero]; rfl
            case q24qy => exact fun _ _ _ h => h
            case y24qy => (refine Or.inl ⟨rfl, ?_⟩; intro wq hq; obtain ⟨⟨a0, a1⟩, _⟩ := HS.out wq hq; go_simp; try with_reducible rfl)
            simp only [Act.put, List.setIfInBounds_toArray, List.set_cons_zero, List.set_cons_succ]
            refine wpAnyH_take (i := 25) (oi := ?p25qy) (v := ?v25qy) ?o25qy (by kernel_rfl) (by kernel_rfl) (by kernel_rfl) ?q25qy ?y25qy hHeld ?r25qy
            case o25qy => simp only [List.getElem?_toArray, List.getElem?_cons_succ, List.getElem?_cons_zero]; rfl
            case q25qy => exact fun _ _ _ h => h
            case y25qy => (refine Or.inl ⟨rfl, ?_⟩; intro wq hq; obtain ⟨⟨a0, a1⟩, _⟩ := HS.out wq hq; go_simp; try with_reducible rfl)
            simp only [Act.put, List.setIfInBounds_toArray, List.set_cons_zero, List.set_cons_succ]
            refine wpAnyH_take (i := 26) (oi := ?p26qy) (v := ?v26qy) ?o26qy (by kernel_rfl) (by kernel_rfl) (by kernel_rfl) ?q26qy ?y26qy hHeld ?r26qy
            case o26qy => simp only [List.getElem?_toArray, List.getElem?_cons_succ, List.getElem?_cons_zero]; rfl
            case q26qy => exact fun _ _ _ h => h
            case y26qy => (refine Or.inl ⟨rfl, ?_⟩; intro wq hq; obtain ⟨⟨a0, a1⟩, _⟩ := HS.out wq hq; go_simp; try with_reducible rfl)
            simp only [Act.put, List.setIfInBounds_toArray, List.set_cons_zero, List.set_cons_succ]
            refine wpAnyH_take (i := 27) (oi := ?p27qy) (v := ?v27qy) ?o27qy (by kernel_rfl) (by kernel_rfl) (by kernel_rfl) ?q27qy ?y27qy hHeld ?r27qy
            case o27qy => simp only [List.getElem?_toArray, List.getElem?_cons_succ, List.getElem?_cons_zero]; rfl
            case q27qy => exact fun _ _ _ h => h
            case y27qy => (refine Or.inl ⟨rfl, ?_⟩; intro wq hq; obtain ⟨⟨a0, a1⟩, _⟩ := HS.out wq hq; go_simp; try with_reducible rfl)
            simp only [Act.put, List.setIfInBounds_toArray, List.set_cons_zero, List.set_cons_succ]
            refine wpAnyH_take (i := 28) (oi := ?p28qy) (v := ?v28qy) ?o28qy (by kernel_rfl) (by kernel_rfl) (by kernel_rfl) ?q28qy ?y28qy hHeld ?r28qy
            case o28qy => simp only [List.getElem?_toArray, List.getElem?_cons_succ, List.getElem?_cons_zero]; rfl
            case q28qy => exact fun _ _ _ h => h
            case y28qy => (refine Or.inl ⟨rfl, ?_⟩; intro wq hq; obtain ⟨⟨a0, a1⟩, _⟩ := HS.out wq hq; go_simp; try with_reducible rfl)
            simp only [Act.put, List.setIfInBounds_toArray, List.set_cons_zero, List.set_cons_succ]
            refine wpAnyH_take (i := 29) (oi := ?p29qy) (v := ?v29qy) ?o29qy (by kernel_rfl) (by kernel_rfl) (by kernel_rfl) ?q29qy ?y29qy hHeld ?r29qy
            case o29qy => simp only [List.getElem?_toArray, List.getElem?_cons_succ, List.getElem?_cons_zero]; rfl
            case q29qy => exact fun _ _ _ h => h
            case y29qy => (refine Or.inl ⟨rfl, ?_⟩; intro wq hq; obtain ⟨⟨a0, a1⟩, _⟩ := HS.out wq hq; go_simp; try with_reducible rfl)
            simp only [Act.put, List.setIfInBounds_toArray, List.set_cons_zero, List.set_cons_succ]
            refine wpAnyH_take (i := 31) (oi := ?p31qy) (v := ?v31qy) ?o31qy (by kernel_rfl) (by kernel_rfl) (by kernel_rfl) ?q31qy ?y31qy hHeld ?r31qy
            case o31qy => simp only [List.getElem?_toArray, List.getElem?_cons_succ, List.getElem?_cons_zero]; rfl
            case q31qy => exact fun _ _ _ h => h
            case y31qy => (refine Or.inl ⟨rfl, ?_⟩; intro wq hq; obtain ⟨⟨a0, a1⟩, _⟩ := HS.out wq hq; go_simp; try with_reducible rfl)
            simp only [Act.put, List.setIfInBounds_toArray, List.set_cons_zero, List.set_cons_succ]
            refine wpAnyH_take (i := 32) (oi := ?p32qy) (v := ?v32qy) ?o32qy (by kernel_rfl) (by kernel_rfl) (by kernel_rfl) ?q32qy ?y32qy hHeld ?r32qy
            case o32qy => simp only [List.getElem?_toArray, List.getElem?_cons_succ, List.getElem?_cons_zero]; rfl
            case q32qy => exact fun _ _ _ h => h
            case y32qy => (refine Or.inl ⟨rfl, ?_⟩; intro wq hq; obtain ⟨⟨a0, a1⟩, _⟩ := HS.out wq hq; go_simp; try with_reducible rfl)
            simp only [Act.put, List.setIfInBounds_toArray, List.set_cons_zero, List.set_cons_succ]
            refine wpAnyH_ready (rs := [30]) (by kernel_rfl) (by simp) ?_
            refine AllReadyH.cons (o := ?p30qy) ?o30qy ?s30qy AllReadyH.nil
            case o30qy => simp only [List.getElem?_toArray, List.getElem?_cons_succ, List.getElem?_cons_zero]; rfl
            intro K hK
            go_simp
            refine (HM.out _ hHeld).ts.len.mono ?_
            rintro e wA ⟨rfl, rfl⟩
            rw [hl0]
            refine hK.out _ _ hHeld (fun hHeld => ?_)
            clear hK K
            refine wpAnyH_take (i := 33) (oi := ?p33qy) (v := ?v33qy) ?o33qy (by kernel_rfl) (by kernel_rfl) (by kernel_rfl) ?q33qy ?y33qy hHeld ?r33qy
            case o33qy => simp only [List.getElem?_toArray, List.getElem?_cons_succ, List.getElem?_cons_zero]; rfl
            case q33qy => exact fun _ _ _ h => h
            case y33qy => (refine Or.inl ⟨rfl, ?_⟩; intro wq hq; obtain ⟨⟨a0, a1⟩, _⟩ := HS.out wq hq; go_simp; try with_reducible rfl)
            simp only [Act.put, List.setIfInBounds_toArray, List.set_cons_zero, List.set_cons_succ]
            refine wpAnyH_take (i := 34) (oi := ?p34qy) (v := ?v34qy) ?o34qy (by kernel_rfl) (by kernel_rfl) (by kernel_rfl) ?q34qy ?y34qy hHeld ?r34qy
            case o34qy => simp only [List.getElem?_toArray, List.getElem?_cons_succ, List.getElem?_cons_zero]; rfl
            case q34qy => exact fun _ _ _ h => h
            case y34qy => (refine Or.inl ⟨rfl, ?_⟩; intro wq hq; obtain ⟨⟨a0, a1⟩, _⟩ := HS.out wq hq; go_simp; try with_reducible rfl)
            simp only [Act.put, List.setIfInBounds_toArray, List.set_cons_zero, List.set_cons_succ]
            refine wpAnyH_take (i := 35) (oi := ?p35qy) (v := ?v35qy) ?o35qy (by kernel_rfl) (by kernel_rfl) (by kernel_rfl) ?q35qy ?y35qy hHeld ?r35qy
            case o35qy => simp only [List.getElem?_toArray, List.getElem?_cons_succ, List.getElem?_cons_zero]; rfl
            case q35qy => exact fun _ _ _ h => h
            case y35qy => (refine Or.inl ⟨rfl, ?_⟩; intro wq hq; obtain ⟨⟨a0, a1⟩, _⟩ := HS.out wq hq; go_simp; try with_reducible rfl)
            simp only [Act.put, List.setIfInBounds_toArray, List.set_cons_zero, List.set_cons_succ]
            refine wpAnyH_take (i := 36) (oi := ?p36qy) (v := ?v36qy) ?o36qy (by kernel_rfl) (by kernel_rfl) (by kernel_rfl) ?q36qy ?y36qy hHeld ?r36qy
            case o36qy => simp only [List.getElem?_toArray, List.getElem?_cons_succ, List.getElem?_cons_zero]; rfl
            case q36qy => exact fun _ _ _ h => h
            case y36qy => (refine Or.inl ⟨rfl, ?_⟩; intro wq hq; obtain ⟨⟨a0, a1⟩, _⟩ := HS.out wq hq; go_simp; try with_reducible rfl)
            simp only [Act.put, List.setIfInBounds_toArray, List.set_cons_zero, List.set_cons_succ]
            refine wpAnyH_take (i := 38) (oi := ?p38qy) (v := ?v38qy) ?o38qy (by kernel_rfl) (by kernel_rfl) (by kernel_rfl) ?q38qy ?y38qy hHeld ?r38qy
            case o38qy => simp only [List.getElem?_toArray, List.getElem?_cons_succ, List.getElem?_cons_zero]; rfl
            case q38qy => exact fun _ _ _ h => h
            case y38qy => (refine Or.inl ⟨rfl, ?_⟩; intro wq hq; obtain ⟨⟨a0, a1⟩, _⟩ := HS.out wq hq; go_simp; try with_reducible rfl)
            simp only [Act.put, List.setIfInBounds_toArray, List.set_cons_zero, List.set_cons_succ]
            refine wpAnyH_ready (rs := [37]) (by kernel_rfl) (by simp) ?_
            refine AllReadyH.cons (o := ?p37qy) ?o37qy ?s37qy AllReadyH.nil
            case o37qy => simp only [List.getElem?_toArray, List.getElem?_cons_succ, List.getElem?_cons_zero]; rfl
            intro K hK
            go_simp
            refine (HM.out _ hHeld).ts.all.mono ?_
            rintro e wB ⟨aB, cB, rfl, atB, _, BB, _⟩
            have BB2 := bel_up hHeld BB (Nat.le_refl _)
            have HAB := Hid_of atB
            clear BB atB
            rw [hl0]
            refine hK.out _ _ BB2 (fun hHeld => ?_)
            clear hK K
            refine wpAnyH_ready (rs := [39]) (by kernel_rfl) (by simp) ?_
            refine AllReadyH.cons (o := ?p39qy) ?o39qy ?s39qy AllReadyH.nil
            case o39qy => simp only [List.getElem?_toArray, List.getElem?_cons_succ, List.getElem?_cons_zero]; rfl
            intro K hK
            go_simp
            have hsm := same_any aB cB ay cy P3 _ (by omega) HAB.out (HM.out _ hHeld).y.at'
            rw [hl0] at hsm
            refine hsm.mono ?_
            rintro e wC ⟨rfl, BC⟩
            have BC2 := bel_up hHeld BC (Nat.le_refl _)
            clear BC hsm
            refine hK.out _ _ BC2 (fun hHeld => ?_)
            clear hK K
            refine wpAnyH_take (i := 40) (oi := ?p40qy) (v := ?v40qy) ?o40qy (by kernel_rfl) (by kernel_rfl) (by kernel_rfl) ?q40qy ?y40qy hHeld ?r40qy
            case o40qy => simp only [List.getElem?_toArray, List.getElem?_cons_succ, List.getElem?_cons_zero]; rfl
            case q40qy => exact fun _ _ _ h => h
            case y40qy => (refine Or.inl ⟨rfl, ?_⟩; intro wq hq; obtain ⟨⟨a0, a1⟩, _⟩ := HS.out wq hq; go_simp; try with_reducible rfl)
            simp only [Act.put, List.setIfInBounds_toArray, List.set_cons_zero, List.set_cons_succ]
            refine wpAnyH_take (i := 41) (oi := ?p41qy) (v := ?v41qy) ?o41qy (by kernel_rfl) (by kernel_rfl) (by kernel_rfl) ?q41qy ?y41qy hHeld ?r41qy
            case o41qy => simp only [List.getElem?_toArray, List.getElem?_cons_succ, List.getElem?_cons_zero]; rfl
            case q41qy => exact fun _ _ _ h => h
            case y41qy => (refine Or.inl ⟨rfl, ?_⟩; intro wq hq; obtain ⟨⟨a0, a1⟩, _⟩ := HS.out wq hq; go_simp; try with_reducible rfl)
            simp only [Act.put, List.setIfInBounds_toArray, List.set_cons_zero, List.set_cons_succ]
            refine wpAnyH_done (by kernel_rfl) ?_ _
            go_wp2
            go_roundw
            case rel => exact ⟨k + 1, P3, v3, ay, cy, by omega, by rw [HPZ.out]; rfl, by go_num, (HM.out _ hHeld)⟩
            case measure => simp [intOf]; omega
        by_cases hk2 : dk = 2
        · have hk0' : (dk == 0) = false := by simpa using hk0
          have hk1' : (dk == 1) = false := by simpa using hk1
          have hk2' : (dk == 2) = true := by simpa using hk2
          have hc := rdue_any ax cx P dn W1 (by omega) HX1.out.y.at'
          clear hk0 hk1 hk2
          go_wp2_with fail
          rw [HW1.out]
          clear HW1 c0 c1 c2
          refine hc.mono ?_
          rintro e w2 ⟨y, u, rfl, hres, ho, B2⟩
          obtain ⟨ay, cy, rfl, hY⟩ := HX1.out.res (cap := cx) B2 (.inr hres)
          obtain ⟨au, cu, rfl, hU⟩ := HX1.out.resI B2 ho
          have hc2 := (HX1.out.ts.keep B2).due dn
          obtain ⟨d0, d1, d2⟩ := HBOX.out w2 B2
          have HY := Hid_of hY
          have HU := Hid_of hU
          have HLI := Hid_of (M.dueI_len P dn)
          clear hres hY B2 hc HX1 HBOX ho hU
          generalize M.dueI P dn = dl at *
          go_wp2_with fail
          refine hc2.mono ?_
          rintro e w3 ⟨a3, c3, v3, rfl, at3, T3, C3⟩
          have hin := ints_any a3 c3 au cu dl w3 (by have := HLI.out; omega) at3 (HU.out w3 v3 C3)
          have HP0 : Hid (PX w w3 b v3 (M.dueL P dn) ay) := ⟨T3, HY.out.step C3⟩
          clear HY T3 C3 hc2 d0 d1 d2 at3 HU
          go_wp2_with fail
          refine hin.mono ?_
          rintro e w5 ⟨rfl, B5⟩
          have HP := Hid_of (HP0.out.keep B5)
          clear HP0 B5 hin
          have hn3 := HP.out.ts.x.len
          generalize M.dueL P dn = P3 at *
          have hnx := HP.out.ts.next
          by_cases hpos : 0 < P3.length
          · obtain ⟨hg1, hg2, hg3⟩ := hd_get P3 hpos
            rw [hg3, hdV_eq] at hnx
            have hpi : (0 : Int) < (P3.length : Int) := by omega
            have hAT0 : ∀ wq, Below w5.heap.size w5 wq → ∃ bx ox, ay = some (⟨bx, ox, none⟩ : Addr) ∧ wq.cell? ⟨bx, ox, none⟩ = some (.int .i64 (hdI P3)) ∧ wq.cell? ⟨bx, ox + 1, none⟩ = some (.int .i64 (hdT P3)) := fun wq hq => by
              obtain ⟨bx, ox, e, h1, h2⟩ := (HP.out.y.at'.keep hq) 0 hpos
              rw [Nat.zero_mul, Nat.add_zero] at h1 h2
              exact ⟨bx, ox, e, by rw [← hg1]; exact h1, by rw [← hg2]; exact h2⟩
            obtain ⟨bx, ox, rfl, _, _⟩ := hAT0 w5 (Below.refl _ _)
            have HAT := Hid_of hAT0
            clear hAT0 hg1 hg2 hg3
            go_wp2_with fail
            refine hnx.mono ?_
            rintro e w20 ⟨rfl, B20, _⟩
            have HBW : Hid (Below w5.heap.size w5 (w20.alloc (.cells #[.int .i64 (hdI P3), .int .i64 (hdT P3)] 42))) := bel_up B20 (bel1 w20 _) (Nat.le_refl _)
            have HRW : Hid ((w20.alloc (.cells #[.int .i64 (hdI P3), .int .i64 (hdT P3)] 42)).heap[w20.heap.size]? = some (.cells #[.int .i64 (hdI P3), .int .i64 (hdT P3)] 42 (0, 0)) ∧ w20.heap.size < (w20.alloc (.cells #[.int .i64 (hdI P3), .int .i64 (hdT P3)] 42)).heap.size) := ⟨heap_alloc_last _ _, by simp⟩
            obtain ⟨W4, HW4⟩ : ∃ W4, Hid (w20.alloc (.cells #[.int .i64 (hdI P3), .int .i64 (hdT P3)] 42) = W4) := ⟨_, rfl⟩
            rw [HW4.out] at HBW HRW
            have HS : Hid (∀ wq, Below W4.heap.size W4 wq → (wq.cell? ⟨w20.heap.size, 0, none⟩ = some (.int .i64 (hdI P3)) ∧ wq.cell? ⟨w20.heap.size, 1, none⟩ = some (.int .i64 (hdT P3))) ∧ (wq.cell? ⟨bx, ox, none⟩ = some (.int .i64 (hdI P3)) ∧ wq.cell? ⟨bx, ox + 1, none⟩ = some (.int .i64 (hdT P3)))) := fun wq hq => by
              obtain ⟨bx', ox', e, h1, h2⟩ := HAT.out wq (bel_up HBW.out hq (Nat.le_refl _))
              cases e
              exact ⟨(row2 ((hq.block _ HRW.out.2).trans HRW.out.1)).1, h1, h2⟩
            have HM : Hid (∀ wq, Below W4.heap.size W4 wq → PX w wq b v3 P3 (some ⟨bx, ox, none⟩)) := fun wq hq => HP.out.keep (bel_up HBW.out hq (Nat.le_refl _))
            clear B20 hnx HP HAT HRW HBW
            generalize hdI P3 = hi at *
            generalize hdT P3 = ht at *
            go_wp2_with fail
            rw [HW4.out]
            clear HW4
            refine wp_region_held_drew (S := fun wq => Below (W4).heap.size (W4) wq) (by kernel_rfl) (Below.drew (Below.refl _ _)) (fun hHeld => ?_)
            refine wpAnyH_take (i := 0) (oi := ?p0rx) (v := ?v0rx) ?o0rx (by kernel_rfl) (by kernel_rfl) (by kernel_rfl) ?q0rx ?y0rx hHeld ?r0rx
            case o0rx => simp only [List.getElem?_toArray, List.getElem?_cons_zero]; rfl
            case q0rx => exact fun _ _ _ h => h
            case y0rx => (refine Or.inl ⟨rfl, ?_⟩; intro wq hq; obtain ⟨⟨a0, a1⟩, b0, b1⟩ := HS.out wq hq; go_simp; try with_reducible rfl)
            simp only [Act.put, List.setIfInBounds_toArray, List.set_cons_zero, List.set_cons_succ]
            refine wpAnyH_take (i := 1) (oi := ?p1rx) (v := ?v1rx) ?o1rx (by kernel_rfl) (by kernel_rfl) (by kernel_rfl) ?q1rx ?y1rx hHeld ?r1rx
            case o1rx => simp only [List.getElem?_toArray, List.getElem?_cons_succ, List.getElem?_cons_zero]; rfl
            case q1rx => exact fun _ _ _ h => h
            case y1rx => (refine Or.inl ⟨rfl, ?_⟩; intro wq hq; obtain ⟨⟨a0, a1⟩, b0, b1⟩ := HS.out wq hq; go_simp; try with_reducible rfl)
            simp only [Act.put, List.setIfInBounds_toArray, List.set_cons_zero, List.set_cons_succ]
            refine wpAnyH_take (i := 2) (oi := ?p2rx) (v := ?v2rx) ?o2rx (by kernel_rfl) (by kernel_rfl) (by kernel_rfl) ?q2rx ?y2rx hHeld ?r2rx
            case o2rx => simp only [List.getElem?_toArray, List.getElem?_cons_succ, List.getElem?_cons_zero]; rfl
            case q2rx => exact fun _ _ _ h => h
            case y2rx => (refine Or.inl ⟨rfl, ?_⟩; intro wq hq; obtain ⟨⟨a0, a1⟩, b0, b1⟩ := HS.out wq hq; go_simp; try with_reducible rfl)
            simp only [Act.put, List.setIfInBounds_toArray, List.set_cons_zero, List.set_cons_succ]
            refine wpAnyH_take (i := 3) (oi := ?p3rx) (v := ?v3rx) ?o3rx (by kernel_rfl) (by kernel_rfl) (by kernel_rfl) ?q3rx ?y3rx hHeld ?r3rx
            case o3rx => simp only [List.getElem?_toArray, List.getElem?_cons_succ, List.getElem?_cons_zero]; rfl
            case q3rx => exact fun _ _ _ h => h
            case y3rx => (refine Or.inl ⟨rfl, ?_⟩; intro wq hq; obtain ⟨⟨a0, a1⟩, b0, b1⟩ := HS.out wq hq; go_simp; try with_reducible rfl)
            simp only [Act.put, List.setIfInBounds_toArray, List.set_cons_zero, List.set_cons_succ]
            refine wpAnyH_take (i := 4) (oi := ?p4rx) (v := ?v4rx) ?o4rx (by kernel_rfl) (by kernel_rfl) (by kernel_rfl) ?q4rx ?y4rx hHeld ?r4rx
            case o4rx => simp only [List.getElem?_toArray, List.getElem?_cons_succ, List.getElem?_cons_zero]; rfl
            case q4rx => exact fun _ _ _ h => h
            case y4rx => (refine Or.inl ⟨rfl, ?_⟩; intro wq hq; obtain ⟨⟨a0, a1⟩, b0, b1⟩ := HS.out wq hq; go_simp; try with_reducible rfl)
            simp only [Act.put, List.setIfInBounds_toArray, List.set_cons_zero, List.set_cons_succ]
            refine wpAnyH_take (i := 5) (oi := ?p5rx) (v := ?v5rx) ?o5rx (by kernel_rfl) (by kernel_rfl) (by kernel_rfl) ?q5rx ?y5rx hHeld ?r5rx
            case o5rx => simp only [List.getElem?_toArray, List.getElem?_cons_succ, List.getElem?_cons_zero]; rfl
            case q5rx => exact fun _ _ _ h => h
            case y5rx => (refine Or.inl ⟨rfl, ?_⟩; intro wq hq; obtain ⟨⟨a0, a1⟩, b0, b1⟩ := HS.out wq hq; go_simp; try with_reducible rfl)
            simp only [Act.put, List.setIfInBounds_toArray, List.set_cons_zero, List.set_cons_succ]
            refine wpAnyH_take (i := 6) (oi := ?p6rx) (v := ?v6rx) ?o6rx (by kernel_rfl) (by kernel_rfl) (by kernel_rfl) ?q6rx ?y6rx hHeld ?r6rx
            case o6rx => simp only [List.getElem?_toArray, List.getElem?_cons_succ, List.getElem?_cons_zero]; rfl
            case q6rx => exact fun _ _ _ h => h
            case y6rx => (refine Or.inl ⟨rfl, ?_⟩; intro wq hq; obtain ⟨⟨a0, a1⟩, b0, b1⟩ := HS.out wq hq; go_simp; try with_reducible rfl)
            simp only [Act.put, List.setIfInBounds_toArray, List.set_cons_zero, List.set_cons_succ]
            refine wpAnyH_take (i := 7) (oi := ?p7rx) (v := ?v7rx) ?o7rx (by kernel_rfl) (by kernel_rfl) (by kernel_rfl) ?q7rx ?y7rx hHeld ?r7rx
            case o7rx => simp only [List.getElem?_toArray, List.getElem?_cons_succ, List.getElem?_cons_zero]; rfl
            case q7rx => exact fun _ _ _ h => h
            case y7rx => (refine Or.inl ⟨rfl, ?_⟩; intro wq hq; obtain ⟨⟨a0, a1⟩, b0, b1⟩ := HS.out wq hq; go_simp; try with_reducible rfl)
            simp only [Act.put, List.setIfInBounds_toArray, List.set_cons_zero, List.set_cons_succ]
            refine wpAnyH_take (i := 8) (oi := ?p8rx) (v := ?v8rx) ?o8rx (by kernel_rfl) (by kernel_rfl) (by kernel_rfl) ?q8rx ?y8rx hHeld ?r8rx
            case o8rx => simp only [List.getElem?_toArray, List.getElem?_cons_succ, List.getElem?_cons_zero]; rfl
            case q8rx => exact fun _ _ _ h => h
            case y8rx => (refine Or.inl ⟨rfl, ?_⟩; intro wq hq; obtain ⟨⟨a0, a1⟩, b0, b1⟩ := HS.out wq hq; go_simp; try with_reducible rfl)
            simp only [Act.put, List.setIfInBounds_toArray, List.set_cons_zero, List.set_cons_succ]
            refine wpAnyH_take (i := 9) (oi := ?p9rx) (v := ?v9rx) ?o9rx (by kernel_rfl) (by kernel_rfl) (by kernel_rfl) ?q9rx ?y9rx hHeld ?r9rx
            case o9rx => simp only [List.getElem?_toArray, List.getElem?_cons_succ, List.getElem?_cons_zero]; rfl
            case q9rx => exact fun _ _ _ h => h
            case y9rx => (refine Or.inl ⟨rfl, ?_⟩; intro wq hq; obtain ⟨⟨a0, a1⟩, b0, b1⟩ := HS.out wq hq; go_simp; try with_reducible rfl)
            simp only [Act.put, List.setIfInBounds_toArray, List.set_cons_zero, List.set_cons_succ]
            refine wpAnyH_take (i := 10) (oi := ?p10rx) (v := ?v10rx) ?o10rx (by kernel_rfl) (by kernel_rfl) (by kernel_rfl) ?q10rx ?y10rx hHeld ?r10rx
            case o10rx => simp only [List.getElem?_toArray, List.getElem?_cons_succ, List.getElem?_cons_zero]; rfl
            case q10rx => exact fun _ _ _ h => h
            case y10rx => (refine Or.inl ⟨rfl, ?_⟩; intro wq hq; obtain ⟨⟨a0, a1⟩, b0, b1⟩ := HS.out wq hq; go_simp; try with_reducible rfl)
            simp only [Act.put, List.setIfInBounds_toArray, List.set_cons_zero, List.set_cons_succ]
            refine wpAnyH_take (i := 11) (oi := ?p11rx) (v := ?v11rx) ?o11rx (by kernel_rfl) (by kernel_rfl) (by kernel_rfl) ?q11rx ?y11rx hHeld ?r11rx
            case o11rx => simp only [List.getElem?_toArray, List.getElem?_cons_succ, List.getElem?_cons_zero]; rfl
            case q11rx => exact fun _ _ _ h => h
            case y11rx => (refine Or.inl ⟨rfl, ?_⟩; intro wq hq; obtain ⟨⟨a0, a1⟩, b0, b1⟩ := HS.out wq hq; go_simp; try with_reducible rfl)
            simp only [Act.put, List.setIfInBounds_toArray, List.set_cons_zero, List.set_cons_succ]
            refine wpAnyH_take (i := 12) (oi := ?p12rx) (v := ?v12rx) ?o12rx (by kernel_rfl) (by kernel_rfl) (by kernel_rfl) ?q12rx ?y12rx hHeld ?r12rx
            case o12rx => simp only [List.getElem?_toArray, List.getElem?_cons_succ, List.getElem?_cons_zero]; rfl
            case q12rx => exact fun _ _ _ h => h
            case y12rx => (refine Or.inl ⟨rfl, ?_⟩; intro wq hq; obtain ⟨⟨a0, a1⟩, b0, b1⟩ := HS.out wq hq; go_simp; try with_reducible rfl)
            simp only [Act.put, List.setIfInBounds_toArray, List.set_cons_zero, List.set_cons_succ]
            refine wpAnyH_take (i := 13) (oi := ?p13rx) (v := ?v13rx) ?o13rx (by kernel_rfl) (by kernel_rfl) (by kernel_rfl) ?q13rx ?y13rx hHeld ?r13rx
            case o13rx => simp only [List.getElem?_toArray, List.getElem?_cons_succ, List.getElem?_cons_zero]; rfl
            case q13rx => exact fun _ _ _ h => h
            case y13rx => (refine Or.inl ⟨rfl, ?_⟩; intro wq hq; obtain ⟨⟨a0, a1⟩, b0, b1⟩ := HS.out wq hq; go_simp; try with_reducible rfl)
            simp only [Act.put, List.setIfInBounds_toArray, List.set_cons_zero, List.set_cons_succ]
            refine wpAnyH_take (i := 14) (oi := ?p14rx) (v := ?v14rx) ?o14rx (by kernel_rfl) (by kernel_rfl) (by kernel_rfl) ?q14rx ?y14rx hHeld ?r14rx
            case o14rx => simp only [List.getElem?_toArray, List.getElem?_cons_succ, List.getElem?_cons_zero]; rfl
            case q14rx => exact fun _ _ _ h => h
            case y14rx => (refine Or.inl ⟨rfl, ?_⟩; intro wq hq; obtain ⟨⟨a0, a1⟩, b0, b1⟩ := HS.out wq hq; go_simp; try with_reducible rfl)
            simp only [Act.put, List.setIfInBounds_toArray, List.set_cons_zero, List.set_cons_succ]
            refine wpAnyH_take (i := 15) (oi := ?p15rx) (v := ?v15rx) ?o15rx (by kernel_rfl) (by kernel_rfl) (by kernel_rfl) ?q15rx ?y15rx hHeld ?r15rx
            case o15rx => simp only [List.getElem?_toArray, List.getElem?_cons_succ, List.getElem?_cons_zero]; rfl
            case q15rx => exact fun _ _ _ h => h
            case y15rx => (refine Or.inl ⟨rfl, ?_⟩; intro wq hq; obtain ⟨⟨a0, a1⟩, b0, b1⟩ := HS.out wq hq; go_simp; try with_reducible rfl)
            simp only [Act.put, List.setIfInBounds_toArray, List.set_cons_zero, List.set_cons_succ]
            refine wpAnyH_take (i := 16) (oi := ?p16rx) (v := ?v16rx) ?o16rx (by kernel_rfl) (by kernel_rfl) (by kernel_rfl) ?q16rx ?y16rx hHeld ?r16rx
            case o16rx => simp only [List.getElem?_toArray, List.getElem?_cons_succ, List.getElem?_cons_zero]; rfl
            case q16rx => exact fun _ _ _ h => h
            case y16rx => (refine Or.inl ⟨rfl, ?_⟩; intro wq hq; obtain ⟨⟨a0, a1⟩, b0, b1⟩ := HS.out wq hq; go_simp; try with_reducible rfl)
            simp only [Act.put, List.setIfInBounds_toArray, List.set_cons_zero, List.set_cons_succ]
            refine wpAnyH_take (i := 17) (oi := ?p17rx) (v := ?v17rx) ?o17rx (by kernel_rfl) (by kernel_rfl) (by kernel_rfl) ?q17rx ?y17rx hHeld ?r17rx
            case o17rx => simp only [List.getElem?_toArray, List.getElem?_cons_succ, List.getElem?_cons_zero]; rfl
            case q17rx => exact fun _ _ _ h => h
            case y17rx => (refine Or.inl ⟨rfl, ?_⟩; intro wq hq; obtain ⟨⟨a0, a1⟩, b0, b1⟩ := HS.out wq hq; go_simp; try with_reducible rfl)
            simp only [Act.put, List.setIfInBounds_toArray, List.set_cons_zero, List.set_cons_succ]
            refine wpAnyH_take (i := 18) (oi := ?p18rx) (v := ?v18rx) ?o18rx (by kernel_rfl) (by kernel_rfl) (by kernel_rfl) ?q18rx ?y18rx hHeld ?r18rx
            case o18rx => simp only [List.getElem?_toArray, List.getElem?_cons_succ, List.getElem?_cons_zero]; rfl
            case q18rx => exact fun _ _ _ h => h
            case y18rx => (refine Or.inl ⟨rfl, ?_⟩; intro wq hq; obtain ⟨⟨a0, a1⟩, b0, b1⟩ := HS.out wq hq; go_simp; try with_reducible rfl)
            simp only [Act.put, List.setIfInBounds_toArray, List.set_cons_zero, List.set_cons_succ]
            refine wpAnyH_take (i := 19) (oi := ?p19rx) (v := ?v19rx) ?o19rx (by kernel_rfl) (by kernel_rfl) (by kernel_rfl) ?q19rx ?y19rx hHeld ?r19rx
            case o19rx => simp only [List.getElem?_toArray, List.getElem?_cons_succ, List.getElem?_cons_zero]; rfl
            case q19rx => exact fun _ _ _ h => h
            case y19rx => (refine Or.inl ⟨rfl, ?_⟩; intro wq hq; obtain ⟨⟨a0, a1⟩, b0, b1⟩ := HS.out wq hq; go_simp; try with_reducible rfl)
            simp only [Act.put, List.setIfInBounds_toArray, List.set_cons_zero, List.set_cons_succ]
            refine wpAnyH_take (i := 20) (oi := ?p20rx) (v := ?v20rx) ?o20rx (by kernel_rfl) (by kernel_rfl) (by kernel_rfl) ?q20rx ?y20rx hHeld ?r20rx
            case o20rx => simp only [List.getElem?_toArray, List.getElem?_cons_succ, List.getElem?_cons_zero]; rfl
            case q20rx => exact fun _ _ _ h => h
            case y20rx => (refine Or.inl ⟨rfl, ?_⟩; intro wq hq; obtain ⟨⟨a0, a1⟩, b0, b1⟩ := HS.out wq hq; go_simp; try with_reducible rfl)
            simp only [Act.put, List.setIfInBounds_toArray, List.set_cons_zero, List.set_cons_succ]
            refine wpAnyH_take (i := 21) (oi := ?p21rx) (v := ?v21rx) ?o21rx (by kernel_rfl) (by kernel_rfl) (by kernel_rfl) ?q21rx ?y21rx hHeld ?r21rx
            case o21rx => simp only [List.getElem?_toArray, List.getElem?_cons_succ, List.getElem?_cons_zero]; rfl
            case q21rx => exact fun _ _ _ h => h
            case y21rx => (refine Or.inl ⟨rfl, ?_⟩; intro wq hq; obtain ⟨⟨a0, a1⟩, b0, b1⟩ := HS.out wq hq; go_simp; try with_reducible rfl)
            simp only [Act.put, List.setIfInBounds_toArray, List.set_cons_zero, List.set_cons_succ]
            refine wpAnyH_take (i := 22) (oi := ?p22rx) (v := ?v22rx) ?o22rx (by kernel_rfl) (by kernel_rfl) (by kernel_rfl) ?q22rx ?y22rx hHeld ?r22rx
            case o22rx => simp only [List.getElem?_toArray, List.getElem?_cons_succ, List.getElem?_cons_zero]; rfl
            case q22rx => exact fun _ _ _ h => h
            case y22rx => (refine Or.inl ⟨rfl, ?_⟩; intro wq hq; obtain ⟨⟨a0, a1⟩, b0, b1⟩ := HS.out wq hq; go_simp; try with_reducible rfl)
            simp only [Act.put, List.setIfInBounds_toArray, List.set_cons_zero, List.set_cons_succ]
            refine wpAnyH_take (i := 23) (oi := ?p23rx) (v := undef) ?o23rx (by kernel_rfl) (by kernel_rfl) (by kernel_rfl) ?q23rx ?y23rx hHeld ?r23rx
            case o23rx => simp only [List.getElem?_toArray, List.getElem?_cons_succ, List.getElem?_cons_zero]; rfl
            case q23rx => exact fun _ _ _ h => h
            case y23rx => exact Or.inr ⟨rfl, rfl⟩
            simp only [Act.put, List.setIfInBounds_toArray, List.set_cons_zero, List.set_cons_succ]
            refine wpAnyH_take (i := 24) (oi := ?p24rx) (v := undef) ?o24rx (by kernel_rfl) (by kernel_rfl) (by kernel_rfl) ?q24rx ?y24rx hHeld ?r24rx
            case o24rx => simp only [List.getElem?_toArray, List.getElem?_cons_succ, List.getElem?_cons_zero]; rfl
            case q24rx => exact fun _ _ _ h => h
            case y24rx => exact Or.inr ⟨rfl, rfl⟩
            simp only [Act.put, List.setIfInBounds_toArray, List.set_cons_zero, List.set_cons_succ]
            refine wpAnyH_take (i := 25) (oi := ?p25rx) (v := undef) ?o25rx (by kernel_rfl) (by kernel_rfl) (by kernel_rfl) ?q25rx ?y25rx hHeld ?r25rx
            case o25rx => simp only [List.getElem?_toArray, List.getElem?_cons_succ, List.getElem?_cons_zero]; rfl
            case q25rx => exact fun _ _ _ h => h
            case y25rx => exact Or.inr ⟨rfl, rfl⟩
            simp only [Act.put, List.setIfInBounds_toArray, List.set_cons_zero, List.set_cons_succ]
            refine wpAnyH_take (i := 26) (oi := ?p26rx) (v := ?v26rx) ?o26rx (by kernel_rfl) (by kernel_rfl) (by kernel_rfl) ?q26rx ?y26rx hHeld ?r26rx
            case o26rx => simp only [List.getElem?_toArray, List.getElem?_cons_succ, List.getElem?_cons_zero]; rfl
            case q26rx => exact fun _ _ _ h => h
            case y26rx => (refine Or.inl ⟨rfl, ?_⟩; intro wq hq; obtain ⟨⟨a0, a1⟩, b0, b1⟩ := HS.out wq hq; go_simp; try with_reducible rfl)
            simp only [Act.put, List.setIfInBounds_toArray, List.set_cons_zero, List.set_cons_succ]
            refine wpAnyH_take (i := 27) (oi := ?p27rx) (v := ?v27rx) ?o27rx (by kernel_rfl) (by kernel_rfl) (by kernel_rfl) ?q27rx ?y27rx hHeld ?r27rx
            case o27rx => simp only [List.getElem?_toArray, List.getElem?_cons_succ, List.getElem?_cons_zero]; rfl
            case q27rx => exact fun _ _ _ h => h
            case y27rx => (refine Or.inl ⟨rfl, ?_⟩; intro wq hq; obtain ⟨⟨a0, a1⟩, b0, b1⟩ := HS.out wq hq; go_simp; try with_reducible rfl)
            simp only [Act.put, List.setIfInBounds_toArray, List.set_cons_zero, List.set_cons_succ]
            refine wpAnyH_take (i := 28) (oi := ?p28rx) (v := ?v28rx) ?o28rx (by kernel_rfl) (by kernel_rfl) (by kernel_rfl) ?q28rx ?y28rx hHeld ?r28rx
            case o28rx => simp only [List.getElem?_toArray, List.getElem?_cons_succ, List.getElem?_cons_zero]; rfl
            case q28rx => exact fun _ _ _ h => h
            case y28rx => (refine Or.inl ⟨rfl, ?_⟩; intro wq hq; obtain ⟨⟨a0, a1⟩, b0, b1⟩ := HS.out wq hq; go_simp; try with_reducible rfl)
            simp only [Act.put, List.setIfInBounds_toArray, List.set_cons_zero, List.set_cons_succ]
            refine wpAnyH_take (i := 29) (oi := ?p29rx) (v := ?v29rx) ?o29rx (by kernel_rfl) (by kernel_rfl) (by kernel_rfl) ?q29rx ?y29rx hHeld ?r29rx
            case o29rx => simp only [List.getElem?_toArray, List.getElem?_cons_succ, List.getElem?_cons_zero]; rfl
            case q29rx => exact fun _ _ _ h => h
            case y29rx => (refine Or.inl ⟨rfl, ?_⟩; intro wq hq; obtain ⟨⟨a0, a1⟩, b0, b1⟩ := HS.out wq hq; go_simp; try with_reducible rfl)
            simp only [Act.put, List.setIfInBounds_toArray, List.set_cons_zero, List.set_cons_succ]
            refine wpAnyH_take (i := 31) (oi := ?p31rx) (v := ?v31rx) ?o31rx (by kernel_rfl) (by kernel_rfl) (by kernel_rfl) ?q31rx ?y31rx hHeld ?r31rx
            case o31rx => simp only [List.getElem?_toArray, List.getElem?_cons_succ, List.getElem?_cons_zero]; rfl
            case q31rx => exact fun _ _ _ h => h
            case y31rx => (refine Or.inl ⟨rfl, ?_⟩; intro wq hq; obtain ⟨⟨a0, a1⟩, b0, b1⟩ := HS.out wq hq; go_simp; try with_reducible rfl)
            simp only [Act.put, List.setIfInBounds_toArray, List.set_cons_zero, List.set_cons_succ]
            refine wpAnyH_take (i := 32) (oi := ?p32rx) (v := ?v32rx) ?o32rx (by kernel_rfl) (by kernel_rfl) (by kernel_rfl) ?q32rx ?y32rx hHeld ?r32rx
            case o32rx => simp only [List.getElem?_toArray, List.getElem?_cons_succ, List.getElem?_cons_zero]; rfl
            case q32rx => exact fun _ _ _ h => h
            case y32rx => (refine Or.inl ⟨rfl, ?_⟩; intro wq hq; obtain ⟨⟨a0, a1⟩, b0, b1⟩ := HS.out wq hq; go_simp; try with_reducible rfl)
            simp only [Act.put, List.setIfInBounds_toArray, List.set_cons_zero, List.set_cons_succ]
            refine wpAnyH_ready (rs := [30]) (by kernel_rfl) (by simp) ?_
            refine AllReadyH.cons (o := ?p30rx) ?o30rx ?s30rx AllReadyH.nil
            case o30rx => simp only [List.getElem?_toArray, List.getElem?_cons_succ, List.getElem?_cons_zero]; rfl
            intro K hK
            go_simp
            refine (HM.out _ hHeld).ts.len.mono ?_
            rintro e wA ⟨rfl, rfl⟩
            refine hK.out _ _ hHeld (fun hHeld => ?_)
            clear hK K
            refine wpAnyH_take (i := 33) (oi := ?p33rx) (v := ?v33rx) ?o33rx (by kernel_rfl) (by kernel_rfl) (by kernel_rfl) ?q33rx ?y33rx hHeld ?r33rx
            case o33rx => simp only [List.getElem?_toArray, List.getElem?_cons_succ, List.getElem?_cons_zero]; rfl
            case q33rx => exact fun _ _ _ h => h
            case y33rx => (refine Or.inl ⟨rfl, ?_⟩; intro wq hq; obtain ⟨⟨a0, a1⟩, b0, b1⟩ := HS.out wq hq; go_simp; try with_reducible rfl)
            simp only [Act.put, List.setIfInBounds_toArray, List.set_cons_zero, List.set_cons_succ]
            refine wpAnyH_take (i := 34) (oi := ?p34rx) (v := ?v34rx) ?o34rx (by kernel_rfl) (by kernel_rfl) (by kernel_rfl) ?q34rx ?y34rx hHeld ?r34rx
            case o34rx => simp only [List.getElem?_toArray, List.getElem?_cons_succ, List.getElem?_cons_zero]; rfl
            case q34rx => exact fun _ _ _ h => h
            case y34rx => (refine Or.inl ⟨rfl, ?_⟩; intro wq hq; obtain ⟨⟨a0, a1⟩, b0, b1⟩ := HS.out wq hq; go_simp; try with_reducible rfl)
            simp only [Act.put, List.setIfInBounds_toArray, List.set_cons_zero, List.set_cons_succ]
            refine wpAnyH_take (i := 35) (oi := ?p35rx) (v := ?v35rx) ?o35rx (by kernel_rfl) (by kernel_rfl) (by kernel_rfl) ?q35rx ?y35rx hHeld ?r35rx
            case o35rx => simp only [List.getElem?_toArray, List.getElem?_cons_succ, List.getElem?_cons_zero]; rfl
            case q35rx => exact fun _ _ _ h => h
            case y35rx => (refine Or.inl ⟨rfl, ?_⟩; intro wq hq; obtain ⟨⟨a0, a1⟩, b0, b1⟩ := HS.out wq hq; go_simp; try with_reducible rfl)
            simp only [Act.put, List.setIfInBounds_toArray, List.set_cons_zero, List.set_cons_succ]
            refine wpAnyH_take (i := 36) (oi := ?p36rx) (v := ?v36rx) ?o36rx (by kernel_rfl) (by kernel_rfl) (by kernel_rfl) ?q36rx ?y36rx hHeld ?r36rx
            case o36rx => simp only [List.getElem?_toArray, List.getElem?_cons_succ, List.getElem?_cons_zero]; rfl
            case q36rx => exact fun _ _ _ h => h
            case y36rx => (refine Or.inl ⟨rfl, ?_⟩; intro wq hq; obtain ⟨⟨a0, a1⟩, b0, b1⟩ := HS.out wq hq; go_simp; try with_reducible rfl)
            simp only [Act.put, List.setIfInBounds_toArray, List.set_cons_zero, List.set_cons_succ]
            refine wpAnyH_take (i := 38) (oi := ?p38rx) (v := ?v38rx) ?o38rx (by kernel_rfl) (by kernel_rfl) (by kernel_rfl) ?q38rx ?y38rx hHeld ?r38rx
            case o38rx => simp only [List.getElem?_toArray, List.getElem?_cons_succ, List.getElem?_cons_zero]; rfl
            case q38rx => exact fun _ _ _ h => h
            case y38rx => (refine Or.inl ⟨rfl, ?_⟩; intro wq hq; obtain ⟨⟨a0, a1⟩, b0, b1⟩ := HS.out wq hq; go_simp; try with_reducible rfl)
            simp only [Act.put, List.setIfInBounds_toArray, List.set_cons_zero, List.set_cons_succ]
            refine wpAnyH_ready (rs := [37]) (by kernel_rfl) (by simp) ?_
            refine AllReadyH.cons (o := ?p37rx) ?o37rx ?s37rx AllReadyH.nil
            case o37rx => simp only [List.getElem?_toArray, List.getElem?_cons_succ, List.getElem?_cons_zero]; rfl
            intro K hK
            go_simp
            refine (HM.out _ hHeld).ts.all.mono ?_
            rintro e wB ⟨aB, cB, rfl, atB, _, BB, _⟩
            have BB2 := bel_up hHeld BB (Nat.le_refl _)
            have HAB := Hid_of atB
            clear BB atB
            refine hK.out _ _ BB2 (fun hHeld => ?_)
            clear hK K
            refine wpAnyH_ready (rs := [39]) (by kernel_rfl) (by simp) ?_
            refine AllReadyH.cons (o := ?p39rx) ?o39rx ?s39rx AllReadyH.nil
            case o39rx => simp only [List.getElem?_toArray, List.getElem?_cons_succ, List.getElem?_cons_zero]; rfl
            intro K hK
            go_simp
            have hsm := same_any aB cB (some ⟨bx, ox, none⟩) cy P3 _ (by omega) HAB.out (HM.out _ hHeld).y.at'
            refine hsm.mono ?_
            rintro e wC ⟨rfl, BC⟩
            have BC2 := bel_up hHeld BC (Nat.le_refl _)
            clear BC hsm
            refine hK.out _ _ BC2 (fun hHeld => ?_)
            clear hK K
            refine wpAnyH_take (i := 40) (oi := ?p40rx) (v := ?v40rx) ?o40rx (by kernel_rfl) (by kernel_rfl) (by kernel_rfl) ?q40rx ?y40rx hHeld ?r40rx
            case o40rx => simp only [List.getElem?_toArray, List.getElem?_cons_succ, List.getElem?_cons_zero]; rfl
            case q40rx => exact fun _ _ _ h => h
            case y40rx => (refine Or.inl ⟨rfl, ?_⟩; intro wq hq; obtain ⟨⟨a0, a1⟩, b0, b1⟩ := HS.out wq hq; go_simp; try with_reducible rfl)
            simp only [Act.put, List.setIfInBounds_toArray, List.set_cons_zero, List.set_cons_succ]
            refine wpAnyH_take (i := 41) (oi := ?p41rx) (v := ?v41rx) ?o41rx (by kernel_rfl) (by kernel_rfl) (by kernel_rfl) ?q41rx ?y41rx hHeld ?r41rx
            case o41rx => simp only [List.getElem?_toArray, List.getElem?_cons_succ, List.getElem?_cons_zero]; rfl
            case q41rx => exact fun _ _ _ h => h
            case y41rx => (refine Or.inl ⟨rfl, ?_⟩; intro wq hq; obtain ⟨⟨a0, a1⟩, b0, b1⟩ := HS.out wq hq; go_simp; try with_reducible rfl)
            simp only [Act.put, List.setIfInBounds_toArray, List.set_cons_zero, List.set_cons_succ]
            refine wpAnyH_done (by kernel_rfl) ?_ _
            go_wp2
            go_roundw
            case rel => exact ⟨k + 1, P3, v3, (some ⟨bx, ox, none⟩), cy, by omega, rfl, by go_num, (HM.out _ hHeld)⟩
            case measure => simp [intOf]; omega
          · have hP0 : P3 = [] := List.length_eq_zero_iff.1 (by omega)
            have HPZ := Hid_of hP0
            rw [hP0, show hdB [] = false from rfl, show hdV [] = .agg #[.int .i64 0, .int .i64 0] from rfl] at hnx
            have hl0 : P3.length = 0 := by omega
            rw [hl0]
            clear hpos hP0
            go_wp2_with fail
            refine hnx.mono ?_
            rintro e w20 ⟨rfl, B20, _⟩
            have HBW : Hid (Below w5.heap.size w5 (w20.alloc (.cells #[.int .i64 0, .int .i64 0] 42))) := bel_up B20 (bel1 w20 _) (Nat.le_refl _)
            have HRW : Hid ((w20.alloc (.cells #[.int .i64 0, .int .i64 0] 42)).heap[w20.heap.size]? = some (.cells #[.int .i64 0, .int .i64 0] 42 (0, 0)) ∧ w20.heap.size < (w20.alloc (.cells #[.int .i64 0, .int .i64 0] 42)).heap.size) := ⟨heap_alloc_last _ _, by simp⟩
            obtain ⟨W4, HW4⟩ : ∃ W4, Hid (w20.alloc (.cells #[.int .i64 0, .int .i64 0] 42) = W4) := ⟨_, rfl⟩
            rw [HW4.out] at HBW HRW
            have HS : Hid (∀ wq, Below W4.heap.size W4 wq → (wq.cell? ⟨w20.heap.size, 0, none⟩ = some (.int .i64 0) ∧ wq.cell? ⟨w20.heap.size, 1, none⟩ = some (.int .i64 0)) ∧ True) := fun wq hq => ⟨(row2 ((hq.block _ HRW.out.2).trans HRW.out.1)).1, trivial⟩
            have HM : Hid (∀ wq, Below W4.heap.size W4 wq → PX w wq b v3 P3 ay) := fun wq hq => HP.out.keep (bel_up HBW.out hq (Nat.le_refl _))
            clear B20 hnx HP HRW HBW
            go_wp2_with fail
            rw [HW4.out]
            clear HW4
            refine wp_region_held_drew (S := fun wq => Below (W4).heap.size (W4) wq) (by kernel_rfl) (Below.drew (Below.refl _ _)) (fun hHeld => ?_)
            refine wpAnyH_take (i := 0) (oi := ?p0ry) (v := ?v0ry) ?o0ry (by kernel_rfl) (by kernel_rfl) (by kernel_rfl) ?q0ry ?y0ry hHeld ?r0ry
            case o0ry => simp only [List.getElem?_toArray, List.getElem?_cons_zero]; rfl
            case q0ry => exact fun _ _ _ h => h
            case y0ry => (refine Or.inl ⟨rfl, ?_⟩; intro wq hq; obtain ⟨⟨a0, a1⟩, _⟩ := HS.out wq hq; go_simp; try with_reducible rfl)
            simp only [Act.put, List.setIfInBounds_toArray, List.set_cons_zero, List.set_cons_succ]
            refine wpAnyH_take (i := 1) (oi := ?p1ry) (v := ?v1ry) ?o1ry (by kernel_rfl) (by kernel_rfl) (by kernel_rfl) ?q1ry ?y1ry hHeld ?r1ry
            case o1ry => simp only [List.getElem?_toArray, List.getElem?_cons_succ, List.getElem?_cons_zero]; rfl
            case q1ry => exact fun _ _ _ h => h
            case y1ry => (refine Or.inl ⟨rfl, ?_⟩; intro wq hq; obtain ⟨⟨a0, a1⟩, _⟩ := HS.out wq hq; go_simp; try with_reducible rfl)
            simp only [Act.put, List.setIfInBounds_toArray, List.set_cons_zero, List.set_cons_succ]
            refine wpAnyH_take (i := 2) (oi := ?p2ry) (v := ?v2ry) ?o2ry (by kernel_rfl) (by kernel_rfl) (by kernel_rfl) ?q2ry ?y2ry hHeld ?r2ry
            case o2ry => simp only [List.getElem?_toArray, List.getElem?_cons_succ, List.getElem?_cons_zero]; rfl
            case q2ry => exact fun _ _ _ h => h
            case y2ry => (refine Or.inl ⟨rfl, ?_⟩; intro wq hq; obtain ⟨⟨a0, a1⟩, _⟩ := HS.out wq hq; go_simp; try with_reducible rfl)
            simp only [Act.put, List.setIfInBounds_toArray, List.set_cons_zero, List.set_cons_succ]
            refine wpAnyH_take (i := 3) (oi := ?p3ry) (v := ?v3ry) ?o3ry (by kernel_rfl) (by kernel_rfl) (by kernel_rfl) ?q3ry ?y3ry hHeld ?r3ry
            case o3ry => simp only [List.getElem?_toArray, List.getElem?_cons_succ, List.getElem?_cons_zero]; rfl
            case q3ry => exact fun _ _ _ h => h
            case y3ry => (refine Or.inl ⟨rfl, ?_⟩; intro wq hq; obtain ⟨⟨a0, a1⟩, _⟩ := HS.out wq hq; go_simp; try with_reducible rfl)
            simp only [Act.put, List.setIfInBounds_toArray, List.set_cons_zero, List.set_cons_succ]
            refine wpAnyH_take (i := 4) (oi := ?p4ry) (v := ?v4ry) ?o4ry (by kernel_rfl) (by kernel_rfl) (by kernel_rfl) ?q4ry ?y4ry hHeld ?r4ry
            case o4ry => simp only [List.getElem?_toArray, List.getElem?_cons_succ, List.getElem?_cons_zero]; rfl
            case q4ry => exact fun _ _ _ h => h
            case y4ry => (refine Or.inl ⟨rfl, ?_⟩; intro wq hq; obtain ⟨⟨a0, a1⟩, _⟩ := HS.out wq hq; go_simp; try with_reducible rfl)
            simp only [Act.put, List.setIfInBounds_toArray, List.set_cons_zero, List.set_cons_succ]
            refine wpAnyH_take (i := 5) (oi := ?p5ry) (v := ?v5ry) ?o5ry (by kernel_rfl) (by kernel_rfl) (by kernel_rfl) ?q5ry ?y5ry hHeld ?r5ry
            case o5ry => simp only [List.getElem?_toArray, List.getElem?_cons_succ, List.getElem?_cons_zero]; rfl
            case q5ry => exact fun _ _ _ h => h
            case y5ry => (refine Or.inl ⟨rfl, ?_⟩; intro wq hq; obtain ⟨⟨a0, a1⟩, _⟩ := HS.out wq hq; go_simp; try with_reducible rfl)
            simp only [Act.put, List.setIfInBounds_toArray, List.set_cons_zero, List.set_cons_succ]
            refine wpAnyH_take (i := 6) (oi := ?p6ry) (v := ?v6ry) ?o6ry (by kernel_rfl) (by kernel_rfl) (by kernel_rfl) ?q6ry ?y6ry hHeld ?r6ry
            case o6ry => simp only [List.getElem?_toArray, List.getElem?_cons_succ, List.getElem?_cons_zero]; rfl
            case q6ry => exact fun _ _ _ h => h
            case y6ry => (refine Or.inl ⟨rfl, ?_⟩; intro wq hq; obtain ⟨⟨a0, a1⟩, _⟩ := HS.out wq hq; go_simp; try with_reducible rfl)
            simp only [Act.put, List.setIfInBounds_toArray, List.set_cons_zero, List.set_cons_succ]
            refine wpAnyH_take (i := 7) (oi := ?p7ry) (v := ?v7ry) ?o7ry (by kernel_rfl) (by kernel_rfl) (by kernel_rfl) ?q7ry ?y7ry hHeld ?r7ry
            case o7ry => simp only [List.getElem?_toArray, List.getElem?_cons_succ, List.getElem?_cons_zero]; rfl
            case q7ry => exact fun _ _ _ h => h
            case y7ry => (refine Or.inl ⟨rfl, ?_⟩; intro wq hq; obtain ⟨⟨a0, a1⟩, _⟩ := HS.out wq hq; go_simp; try with_reducible rfl)
            simp only [Act.put, List.setIfInBounds_toArray, List.set_cons_zero, List.set_cons_succ]
            refine wpAnyH_take (i := 8) (oi := ?p8ry) (v := ?v8ry) ?o8ry (by kernel_rfl) (by kernel_rfl) (by kernel_rfl) ?q8ry ?y8ry hHeld ?r8ry
            case o8ry => simp only [List.getElem?_toArray, List.getElem?_cons_succ, List.getElem?_cons_zero]; rfl
            case q8ry => exact fun _ _ _ h => h
            case y8ry => (refine Or.inl ⟨rfl, ?_⟩; intro wq hq; obtain ⟨⟨a0, a1⟩, _⟩ := HS.out wq hq; go_simp; try with_reducible rfl)
            simp only [Act.put, List.setIfInBounds_toArray, List.set_cons_zero, List.set_cons_succ]
            refine wpAnyH_take (i := 9) (oi := ?p9ry) (v := ?v9ry) ?o9ry (by kernel_rfl) (by kernel_rfl) (by kernel_rfl) ?q9ry ?y9ry hHeld ?r9ry
            case o9ry => simp only [List.getElem?_toArray, List.getElem?_cons_succ, List.getElem?_cons_zero]; rfl
            case q9ry => exact fun _ _ _ h => h
            case y9ry => (refine Or.inl ⟨rfl, ?_⟩; intro wq hq; obtain ⟨⟨a0, a1⟩, _⟩ := HS.out wq hq; go_simp; try with_reducible rfl)
            simp only [Act.put, List.setIfInBounds_toArray, List.set_cons_zero, List.set_cons_succ]
            refine wpAnyH_take (i := 10) (oi := ?p10ry) (v := ?v10ry) ?o10ry (by kernel_rfl) (by kernel_rfl) (by kernel_rfl) ?q10ry ?y10ry hHeld ?r10ry
            case o10ry => simp only [List.getElem?_toArray, List.getElem?_cons_succ, List.getElem?_cons_zero]; rfl
            case q10ry => exact fun _ _ _ h => h
            case y10ry => (refine Or.inl ⟨rfl, ?_⟩; intro wq hq; obtain ⟨⟨a0, a1⟩, _⟩ := HS.out wq hq; go_simp; try with_reducible rfl)
            simp only [Act.put, List.setIfInBounds_toArray, List.set_cons_zero, List.set_cons_succ]
            refine wpAnyH_take (i := 11) (oi := ?p11ry) (v := ?v11ry) ?o11ry (by kernel_rfl) (by kernel_rfl) (by kernel_rfl) ?q11ry ?y11ry hHeld ?r11ry
            case o11ry => simp only [List.getElem?_toArray, List.getElem?_cons_succ, List.getElem?_cons_zero]; rfl
            case q11ry => exact fun _ _ _ h => h
            case y11ry => (refine Or.inl ⟨rfl, ?_⟩; intro wq hq; obtain ⟨⟨a0, a1⟩, _⟩ := HS.out wq hq; go_simp; try with_reducible rfl)
            simp only [Act.put, List.setIfInBounds_toArray, List.set_cons_zero, List.set_cons_succ]
            refine wpAnyH_take (i := 12) (oi := ?p12ry) (v := undef) ?o12ry (by kernel_rfl) (by kernel_rfl) (by kernel_rfl) ?q12ry ?y12ry hHeld ?r12ry
            case o12ry => simp only [List.getElem?_toArray, List.getElem?_cons_succ, List.getElem?_cons_zero]; rfl
            case q12ry => exact fun _ _ _ h => h
            case y12ry => exact Or.inr ⟨rfl, rfl⟩
            simp only [Act.put, List.setIfInBounds_toArray, List.set_cons_zero, List.set_cons_succ]
            refine wpAnyH_take (i := 13) (oi := ?p13ry) (v := undef) ?o13ry (by kernel_rfl) (by kernel_rfl) (by kernel_rfl) ?q13ry ?y13ry hHeld ?r13ry
            case o13ry => simp only [List.getElem?_toArray, List.getElem?_cons_succ, List.getElem?_cons_zero]; rfl
            case q13ry => exact fun _ _ _ h => h
            case y13ry => exact Or.inr ⟨rfl, rfl⟩
            simp only [Act.put, List.setIfInBounds_toArray, List.set_cons_zero, List.set_cons_succ]
            refine wpAnyH_take (i := 14) (oi := ?p14ry) (v := undef) ?o14ry (by kernel_rfl) (by kernel_rfl) (by kernel_rfl) ?q14ry ?y14ry hHeld ?r14ry
            case o14ry => simp only [List.getElem?_toArray, List.getElem?_cons_succ, List.getElem?_cons_zero]; rfl
            case q14ry => exact fun _ _ _ h => h
            case y14ry => exact Or.inr ⟨rfl, rfl⟩
            simp only [Act.put, List.setIfInBounds_toArray, List.set_cons_zero, List.set_cons_succ]
            refine wpAnyH_take (i := 15) (oi := ?p15ry) (v := undef) ?o15ry (by kernel_rfl) (by kernel_rfl) (by kernel_rfl) ?q15ry ?y15ry hHeld ?r15ry
            case o15ry => simp only [List.getElem?_toArray, List.getElem?_cons_succ, List.getElem?_cons_zero]; rfl
            case q15ry => exact fun _ _ _ h => h
            case y15ry => exact Or.inr ⟨rfl, rfl⟩
            simp only [Act.put, List.setIfInBounds_toArray, List.set_cons_zero, List.set_cons_succ]
            refine wpAnyH_take (i := 16) (oi := ?p16ry) (v := undef) ?o16ry (by kernel_rfl) (by kernel_rfl) (by kernel_rfl) ?q16ry ?y16ry hHeld ?r16ry
            case o16ry => simp only [List.getElem?_toArray, List.getElem?_cons_succ, List.getElem?_cons_zero]; rfl
            case q16ry => exact fun _ _ _ h => h
            case y16ry => exact Or.inr ⟨rfl, rfl⟩
            simp only [Act.put, List.setIfInBounds_toArray, List.set_cons_zero, List.set_cons_succ]
            refine wpAnyH_take (i := 17) (oi := ?p17ry) (v := ?v17ry) ?o17ry (by kernel_rfl) (by kernel_rfl) (by kernel_rfl) ?q17ry ?y17ry hHeld ?r17ry
            case o17ry => simp only [List.getElem?_toArray, List.getElem?_cons_succ, List.getElem?_cons_zero]; rfl
            case q17ry => exact fun _ _ _ h => h
            case y17ry => (refine Or.inl ⟨rfl, ?_⟩; intro wq hq; obtain ⟨⟨a0, a1⟩, _⟩ := HS.out wq hq; go_simp; try with_reducible rfl)
            simp only [Act.put, List.setIfInBounds_toArray, List.set_cons_zero, List.set_cons_succ]
            refine wpAnyH_take (i := 18) (oi := ?p18ry) (v := ?v18ry) ?o18ry (by kernel_rfl) (by kernel_rfl) (by kernel_rfl) ?q18ry ?y18ry hHeld ?r18ry
            case o18ry => simp only [List.getElem?_toArray, List.getElem?_cons_succ, List.getElem?_cons_zero]; rfl
            case q18ry => exact fun _ _ _ h => h
            case y18ry => (refine Or.inl ⟨rfl, ?_⟩; intro wq hq; obtain ⟨⟨a0, a1⟩, _⟩ := HS.out wq hq; go_simp; try with_reducible rfl)
            simp only [Act.put, List.setIfInBounds_toArray, List.set_cons_zero, List.set_cons_succ]
            refine wpAnyH_take (i := 19) (oi := ?p19ry) (v := ?v19ry) ?o19ry (by kernel_rfl) (by kernel_rfl) (by kernel_rfl) ?q19ry ?y19ry hHeld ?r19ry
            case o19ry => simp only [List.getElem?_toArray, List.getElem?_cons_succ, List.getElem?_cons_zero]; rfl
            case q19ry => exact fun _ _ _ h => h
            case y19ry => (refine Or.inl ⟨rfl, ?_⟩; intro wq hq; obtain ⟨⟨a0, a1⟩, _⟩ := HS.out wq hq; go_simp; try with_reducible rfl)
            simp only [Act.put, List.setIfInBounds_toArray, List.set_cons_zero, List.set_cons_succ]
            refine wpAnyH_take (i := 20) (oi := ?p20ry) (v := ?v20ry) ?o20ry (by kernel_rfl) (by kernel_rfl) (by kernel_rfl) ?q20ry ?y20ry hHeld ?r20ry
            case o20ry => simp only [List.getElem?_toArray, List.getElem?_cons_succ, List.getElem?_cons_zero]; rfl
            case q20ry => exact fun _ _ _ h => h
            case y20ry => (refine Or.inl ⟨rfl, ?_⟩; intro wq hq; obtain ⟨⟨a0, a1⟩, _⟩ := HS.out wq hq; go_simp; try with_reducible rfl)
            simp only [Act.put, List.setIfInBounds_toArray, List.set_cons_zero, List.set_cons_succ]
            refine wpAnyH_take (i := 21) (oi := ?p21ry) (v := ?v21ry) ?o21ry (by kernel_rfl) (by kernel_rfl) (by kernel_rfl) ?q21ry ?y21ry hHeld ?r21ry
            case o21ry => simp only [List.getElem?_toArray, List.getElem?_cons_succ, List.getElem?_cons_zero]; rfl
            case q21ry => exact fun _ _ _ h => h
            case y21ry => (refine Or.inl ⟨rfl, ?_⟩; intro wq hq; obtain ⟨⟨a0, a1⟩, _⟩ := HS.out wq hq; go_simp; try with_reducible rfl)
            simp only [Act.put, List.setIfInBounds_toArray, List.set_cons_zero, List.set_cons_succ]
            refine wpAnyH_take (i := 22) (oi := ?p22ry) (v := ?v22ry) ?o22ry (by kernel_rfl) (by kernel_rfl) (by kernel_rfl) ?q22ry ?y22ry hHeld ?r22ry
            case o22ry => simp only [List.getElem?_toArray, List.getElem?_cons_succ, List.getElem?_cons_zero]; rfl
            case q22ry => exact fun _ _ _ h => h
            case y22ry => (refine Or.inl ⟨rfl, ?_⟩; intro wq hq; obtain ⟨⟨a0, a1⟩, _⟩ := HS.out wq hq; go_simp; try with_reducible rfl)
            simp only [Act.put, List.setIfInBounds_toArray, List.set_cons_zero, List.set_cons_succ]
            refine wpAnyH_take (i := 23) (oi := ?p23ry) (v := ?v23ry) ?o23ry (by kernel_rfl) (by kernel_rfl) (by kernel_rfl) ?q23ry ?y23ry hHeld ?r23ry
            case o23ry => simp only [List.getElem?_toArray, List.getElem?_cons_succ, List.getElem?_cons_zero]; rfl
            case q23ry => exact fun _ _ _ h => h
            case y23ry => (refine Or.inl ⟨rfl, ?_⟩; intro wq hq; obtain ⟨⟨a0, a1⟩, _⟩ := HS.out wq hq; go_simp; try with_reducible rfl)
            simp only [Act.put, List.setIfInBounds_toArray, List.set_cons_zero, List.set_cons_succ]
            refine wpAnyH_take (i := 24) (oi := ?p24ry) (v := ?v24ry) ?o24ry (by kernel_rfl) (by kernel_rfl) (by kernel_rfl) ?q24ry ?y24ry hHeld ?r24ry
            case o24ry => simp only [List.getElem?_toArray, List.getElem?_cons_succ, List.getElem?_cons_zero]; rfl
            case q24ry => exact fun _ _ _ h => h
            case y24ry => (refine Or.inl ⟨rfl, ?_⟩; intro wq hq; obtain ⟨⟨a0, a1⟩, _⟩ := HS.out wq hq; go_simp; try with_reducible rfl)
            simp only [Act.put, List.setIfInBounds_toArray, List.set_cons_zero, List.set_cons_succ]
            refine wpAnyH_take (i := 25) (oi := ?p25ry) (v := ?v25ry) ?o25ry (by kernel_rfl) (by kernel_rfl) (by kernel_rfl) ?q25ry ?y25ry hHeld ?r25ry
            case o25ry => simp only [List.getElem?_toArray, List.getElem?_cons_succ, List.getElem?_cons_zero]; rfl
            case q25ry => exact fun _ _ _ h => h
            case y25ry => (refine Or.inl ⟨rfl, ?_⟩; intro wq hq; obtain ⟨⟨a0, a1⟩, _⟩ := HS.out wq hq; go_simp; try with_reducible rfl)
            simp only [Act.put, List.setIfInBounds_toArray, List.set_cons_zero, List.set_cons_succ]
            refine wpAnyH_take (i := 26) (oi := ?p26ry) (v := ?v26ry) ?o26ry (by kernel_rfl) (by kernel_rfl) (by kernel_rfl) ?q26ry ?y26ry hHeld ?r26ry
            case o26ry => simp only [List.getElem?_toArray, List.getElem?_cons_succ, List.getElem?_cons_zero]; rfl
            case q26ry => exact fun _ _ _ h => h
            case y26ry => (refine Or.inl ⟨rfl, ?_⟩; intro wq hq; obtain ⟨⟨a0, a1⟩, _⟩ := HS.out wq hq; go_simp; try with_reducible rfl)
            simp only [Act.put, List.setIfInBounds_toArray, List.set_cons_zero, List.set_cons_succ]
            refine wpAnyH_take (i := 27) (oi := ?p27ry) (v := ?v27ry) ?o27ry (by kernel_rfl) (by kernel_rfl) (by kernel_rfl) ?q27ry ?y27ry hHeld ?r27ry
            case o27ry => simp only [List.getElem?_toArray, List.getElem?_cons_succ, List.getElem?_cons_zero]; rfl
            case q27ry => exact fun _ _ _ h => h
            case y27ry => (refine Or.inl ⟨rfl, ?_⟩; intro wq hq; obtain ⟨⟨a0, a1⟩, _⟩ := HS.out wq hq; go_simp; try with_reducible rfl)
            simp only [Act.put, List.setIfInBounds_toArray, List.set_cons_zero, List.set_cons_succ]
            refine wpAnyH_take (i := 28) (oi := ?p28ry) (v := ?v28ry) ?o28ry (by kernel_rfl) (by kernel_rfl) (by kernel_rfl) ?q28ry ?y28ry hHeld ?r28ry
            case o28ry => simp only [List.getElem?_toArray, List.getElem?_cons_succ, List.getElem?_cons_zero]; rfl
            case q28ry => exact fun _ _ _ h => h
            case y28ry => (refine Or.inl ⟨rfl, ?_⟩; intro wq hq; obtain ⟨⟨a0, a1⟩, _⟩ := HS.out wq hq; go_simp; try with_reducible rfl)
            simp only [Act.put, List.setIfInBounds_toArray, List.set_cons_zero, List.set_cons_succ]
            refine wpAnyH_take (i := 29) (oi := ?p29ry) (v := ?v29ry) ?o29ry (by kernel_rfl) (by kernel_rfl) (by kernel_rfl) ?q29ry ?y29ry hHeld ?r29ry
            case o29ry => simp only [List.getElem?_toArray, List.getElem?_cons_succ, List.getElem?_cons_zero]; rfl
            case q29ry => exact fun _ _ _ h => h
            case y29ry => (refine Or.inl ⟨rfl, ?_⟩; intro wq hq; obtain ⟨⟨a0, a1⟩, _⟩ := HS.out wq hq; go_simp; try with_reducible rfl)
            simp only [Act.put, List.setIfInBounds_toArray, List.set_cons_zero, List.set_cons_succ]
            refine wpAnyH_take (i := 31) (oi := ?p31ry) (v := ?v31ry) ?o31ry (by kernel_rfl) (by kernel_rfl) (by kernel_rfl) ?q31ry ?y31ry hHeld ?r31ry
            case o31ry => simp only [List.getElem?_toArray, List.getElem?_cons_succ, List.getElem?_cons_zero]; rfl
            case q31ry => exact fun _ _ _ h => h
            case y31ry => (refine Or.inl ⟨rfl, ?_⟩; intro wq hq; obtain ⟨⟨a0, a1⟩, _⟩ := HS.out wq hq; go_simp; try with_reducible rfl)
            simp only [Act.put, List.setIfInBounds_toArray, List.set_cons_zero, List.set_cons_succ]
            refine wpAnyH_take (i := 32) (oi := ?p32ry) (v := ?v32ry) ?o32ry (by kernel_rfl) (by kernel_rfl) (by kernel_rfl) ?q32ry ?y32ry hHeld ?r32ry
            case o32ry => simp only [List.getElem?_toArray, List.getElem?_cons_succ, List.getElem?_cons_zero]; rfl
            case q32ry => exact fun _ _ _ h => h
            case y32ry => (refine Or.inl ⟨rfl, ?_⟩; intro wq hq; obtain ⟨⟨a0, a1⟩, _⟩ := HS.out wq hq; go_simp; try with_reducible rfl)
            simp only [Act.put, List.setIfInBounds_toArray, List.set_cons_zero, List.set_cons_succ]
            refine wpAnyH_ready (rs := [30]) (by kernel_rfl) (by simp) ?_
            refine AllReadyH.cons (o := ?p30ry) ?o30ry ?s30ry AllReadyH.nil
            case o30ry => simp only [List.getElem?_toArray, List.getElem?_cons_succ, List.getElem?_cons_zero]; rfl
            intro K hK
            go_simp
            refine (HM.out _ hHeld).ts.len.mono ?_
            rintro e wA ⟨rfl, rfl⟩
            rw [hl0]
            refine hK.out _ _ hHeld (fun hHeld => ?_)
            clear hK K
            refine wpAnyH_take (i := 33) (oi := ?p33ry) (v := ?v33ry) ?o33ry (by kernel_rfl) (by kernel_rfl) (by kernel_rfl) ?q33ry ?y33ry hHeld ?r33ry
            case o33ry => simp only [List.getElem?_toArray, List.getElem?_cons_succ, List.getElem?_cons_zero]; rfl
            case q33ry => exact fun _ _ _ h => h
            case y33ry => (refine Or.inl ⟨rfl, ?_⟩; intro wq hq; obtain ⟨⟨a0, a1⟩, _⟩ := HS.out wq hq; go_simp; try with_reducible rfl)
            simp only [Act.put, List.setIfInBounds_toArray, List.set_cons_zero, List.set_cons_succ]
            refine wpAnyH_take (i := 34) (oi := ?p34ry) (v := ?v34ry) ?o34ry (by kernel_rfl) (by kernel_rfl) (by kernel_rfl) ?q34ry ?y34ry hHeld ?r34ry
            case o34ry => simp only [List.getElem?_toArray, List.getElem?_cons_succ, List.getElem?_cons_zero]; rfl
            case q34ry => exact fun _ _ _ h => h
            case y34ry => (refine Or.inl ⟨rfl, ?_⟩; intro wq hq; obtain ⟨⟨a0, a1⟩, _⟩ := HS.out wq hq; go_simp; try with_reducible rfl)
            simp only [Act.put, List.setIfInBounds_toArray, List.set_cons_zero, List.set_cons_succ]
            refine wpAnyH_take (i := 35) (oi := ?p35ry) (v := ?v35ry) ?o35ry (by kernel_rfl) (by kernel_rfl) (by kernel_rfl) ?q35ry ?y35ry hHeld ?r35ry
            case o35ry => simp only [List.getElem?_toArray, List.getElem?_cons_succ, List.getElem?_cons_zero]; rfl
            case q35ry => exact fun _ _ _ h => h
            case y35ry => (refine Or.inl ⟨rfl, ?_⟩; intro wq hq; obtain ⟨⟨a0, a1⟩, _⟩ := HS.out wq hq; go_simp; try with_reducible rfl)
            simp only [Act.put, List.setIfInBounds_toArray, List.set_cons_zero, List.set_cons_succ]
            refine wpAnyH_take (i := 36) (oi := ?p36ry) (v := ?v36ry) ?o36ry (by kernel_rfl) (by kernel_rfl) (by kernel_rfl) ?q36ry ?y36ry hHeld ?r36ry
            case o36ry => simp only [List.getElem?_toArray, List.getElem?_cons_succ, List.getElem?_cons_zero]; rfl
            case q36ry => exact fun _ _ _ h => h
            case y36ry => (refine Or.inl ⟨rfl, ?_⟩; intro wq hq; obtain ⟨⟨a0, a1⟩, _⟩ := HS.out wq hq; go_simp; try with_reducible rfl)
            simp only [Act.put, List.setIfInBounds_toArray, List.set_cons_zero, List.set_cons_succ]
            refine wpAnyH_take (i := 38) (oi := ?p38ry) (v := ?v38ry) ?o38ry (by kernel_rfl) (by kernel_rfl) (by kernel_rfl) ?q38ry ?y38ry hHeld ?r38ry
            case o38ry => simp only [List.getElem?_toArray, List.getElem?_cons_succ, List.getElem?_cons_zero]; rfl
            case q38ry => exact fun _ _ _ h => h
            case y38ry => (refine Or.inl ⟨rfl, ?_⟩; intro wq hq; obtain ⟨⟨a0, a1⟩, _⟩ := HS.out wq hq; go_simp; try with_reducible rfl)
            simp only [Act.put, List.setIfInBounds_toArray, List.set_cons_zero, List.set_cons_succ]
            refine wpAnyH_ready (rs := [37]) (by kernel_rfl) (by simp) ?_
            refine AllReadyH.cons (o := ?p37ry) ?o37ry ?s37ry AllReadyH.nil
            case o37ry => simp only [List.getElem?_toArray, List.getElem?_cons_succ, List.getElem?_cons_zero]; rfl
            intro K hK
            go_simp
            refine (HM.out _ hHeld).ts.all.mono ?_
            rintro e wB ⟨aB, cB, rfl, atB, _, BB, _⟩
            have BB2 := bel_up hHeld BB (Nat.le_refl _)
            have HAB := Hid_of atB
            clear BB atB
            rw [hl0]
            refine hK.out _ _ BB2 (fun hHeld => ?_)
            clear hK K
            refine wpAnyH_ready (rs := [39]) (by kernel_rfl) (by simp) ?_
            refine AllReadyH.cons (o := ?p39ry) ?o39ry ?s39ry AllReadyH.nil
            case o39ry => simp only [List.getElem?_toArray, List.getElem?_cons_succ, List.getElem?_cons_zero]; rfl
            intro K hK
            go_simp
            have hsm := same_any aB cB ay cy P3 _ (by omega) HAB.out (HM.out _ hHeld).y.at'
            rw [hl0] at hsm
            refine hsm.mono ?_
            rintro e wC ⟨rfl, BC⟩
            have BC2 := bel_up hHeld BC (Nat.le_refl _)
            clear BC hsm
            refine hK.out _ _ BC2 (fun hHeld => ?_)
            clear hK K
            refine wpAnyH_take (i := 40) (oi := ?p40ry) (v := ?v40ry) ?o40ry (by kernel_rfl) (by kernel_rfl) (by kernel_rfl) ?q40ry ?y40ry hHeld ?r40ry
            case o40ry => simp only [List.getElem?_toArray, List.getElem?_cons_succ, List.getElem?_cons_zero]; rfl
            case q40ry => exact fun _ _ _ h => h
            case y40ry => (refine Or.inl ⟨rfl, ?_⟩; intro wq hq; obtain ⟨⟨a0, a1⟩, _⟩ := HS.out wq hq; go_simp; try with_reducible rfl)
            simp only [Act.put, List.setIfInBounds_toArray, List.set_cons_zero, List.set_cons_succ]
            refine wpAnyH_take (i := 41) (oi := ?p41ry) (v := ?v41ry) ?o41ry (by kernel_rfl) (by kernel_rfl) (by kernel_rfl) ?q41ry ?y41ry hHeld ?r41ry
            case o41ry => simp only [List.getElem?_toArray, List.getElem?_cons_succ, List.getElem?_cons_zero]; rfl
            case q41ry => exact fun _ _ _ h => h
            case y41ry => (refine Or.inl ⟨rfl, ?_⟩; intro wq hq; obtain ⟨⟨a0, a1⟩, _⟩ := HS.out wq hq; go_simp; try with_reducible rfl)
            simp only [Act.put, List.setIfInBounds_toArray, List.set_cons_zero, List.set_cons_succ]
            refine wpAnyH_done (by kernel_rfl) ?_ _
            go_wp2
            go_roundw
            case rel => exact ⟨k + 1, P3, v3, ay, cy, by omega, by rw [HPZ.out]; rfl, by go_num, (HM.out _ hHeld)⟩
            case measure => simp [intOf]; omega
        have hk0' : (dk == 0) = false := by simpa using hk0
        have hk1' : (dk == 1) = false := by simpa using hk1
        have hk2' : (dk == 2) = false := by simpa using hk2
        have HP := HX1
        clear hk0 hk1 hk2 HBOX HX1
        go_wp2_with fail
        rw [HW1.out]
        clear HW1 c0 c1 c2
        have hnx := HP.out.ts.next
        by_cases hpos : 0 < P.length
        · obtain ⟨hg1, hg2, hg3⟩ := hd_get P hpos
          rw [hg3, hdV_eq] at hnx
          have hpi : (0 : Int) < (P.length : Int) := by omega
          have hAT0 : ∀ wq, Below W1.heap.size W1 wq → ∃ bx ox, ax = some (⟨bx, ox, none⟩ : Addr) ∧ wq.cell? ⟨bx, ox, none⟩ = some (.int .i64 (hdI P)) ∧ wq.cell? ⟨bx, ox + 1, none⟩ = some (.int .i64 (hdT P)) := fun wq hq => by
            obtain ⟨bx, ox, e, h1, h2⟩ := (HP.out.y.at'.keep hq) 0 hpos
            rw [Nat.zero_mul, Nat.add_zero] at h1 h2
            exact ⟨bx, ox, e, by rw [← hg1]; exact h1, by rw [← hg2]; exact h2⟩
          obtain ⟨bx, ox, rfl, _, _⟩ := hAT0 W1 (Below.refl _ _)
          have HAT := Hid_of hAT0
          clear hAT0 hg1 hg2 hg3
          go_wp2_with fail
          refine hnx.mono ?_
          rintro e w20 ⟨rfl, B20, _⟩
          have HBW : Hid (Below W1.heap.size W1 (w20.alloc (.cells #[.int .i64 (hdI P), .int .i64 (hdT P)] 42))) := bel_up B20 (bel1 w20 _) (Nat.le_refl _)
          have HRW : Hid ((w20.alloc (.cells #[.int .i64 (hdI P), .int .i64 (hdT P)] 42)).heap[w20.heap.size]? = some (.cells #[.int .i64 (hdI P), .int .i64 (hdT P)] 42 (0, 0)) ∧ w20.heap.size < (w20.alloc (.cells #[.int .i64 (hdI P), .int .i64 (hdT P)] 42)).heap.size) := ⟨heap_alloc_last _ _, by simp⟩
          obtain ⟨W4, HW4⟩ : ∃ W4, Hid (w20.alloc (.cells #[.int .i64 (hdI P), .int .i64 (hdT P)] 42) = W4) := ⟨_, rfl⟩
          rw [HW4.out] at HBW HRW
          have HS : Hid (∀ wq, Below W4.heap.size W4 wq → (wq.cell? ⟨w20.heap.size, 0, none⟩ = some (.int .i64 (hdI P)) ∧ wq.cell? ⟨w20.heap.size, 1, none⟩ = some (.int .i64 (hdT P))) ∧ (wq.cell? ⟨bx, ox, none⟩ = some (.int .i64 (hdI P)) ∧ wq.cell? ⟨bx, ox + 1, none⟩ = some (.int .i64 (hdT P)))) := fun wq hq => by
            obtain ⟨bx', ox', e, h1, h2⟩ := HAT.out wq (bel_up HBW.out hq (Nat.le_refl _))
            cases e
            exact ⟨(row2 ((hq.block _ HRW.out.2).trans HRW.out.1)).1, h1, h2⟩
          have HM : Hid (∀ wq, Below W4.heap.size W4 wq → PX w wq b v P (some ⟨bx, ox, none⟩)) := fun wq hq => HP.out.keep (bel_up HBW.out hq (Nat.le_refl _))
          clear B20 hnx HP HAT HRW HBW
          generalize hdI P = hi at *
          generalize hdT P = ht at *
          go_wp2_with fail
          rw [HW4.out]
          clear HW4
          refine wp_region_held_drew (S := fun wq => Below (W4).heap.size (W4) wq) (by kernel_rfl) (Below.drew (Below.refl _ _)) (fun hHeld => ?_)
          refine wpAnyH_take (i := 0) (oi := ?p0sx) (v := ?v0sx) ?o0sx (by kernel_rfl) (by kernel_rfl) (by kernel_rfl) ?q0sx ?y0sx hHeld ?r0sx
          case o0sx => simp only [List.getElem?_toArray, List.getElem?_cons_zero]; rfl
          case q0sx => exact fun _ _ _ h => h
          case y0sx => (refine Or.inl ⟨rfl, ?_⟩; intro wq hq; obtain ⟨⟨a0, a1⟩, b0, b1⟩ := HS.out wq hq; go_simp; try with_reducible rfl)
          simp only [Act.put, List.setIfInBounds_toArray, List.set_cons_zero, List.set_cons_succ]
          refine wpAnyH_take (i := 1) (oi := ?p1sx) (v := ?v1sx) ?o1sx (by kernel_rfl) (by kernel_rfl) (by kernel_rfl) ?q1sx ?y1sx hHeld ?r1sx
          case o1sx => simp only [List.getElem?_toArray, List.getElem?_cons_succ, List.getElem?_cons_zero]; rfl
          case q1sx => exact fun _ _ _ h => h
          case y1sx => (refine Or.inl ⟨rfl, ?_⟩; intro wq hq; obtain ⟨⟨a0, a1⟩, b0, b1⟩ := HS.out wq hq; go_simp; try with_reducible rfl)
          simp only [Act.put, List.setIfInBounds_toArray, List.set_cons_zero, List.set_cons_succ]
          refine wpAnyH_take (i := 2) (oi := ?p2sx) (v := ?v2sx) ?o2sx (by kernel_rfl) (by kernel_rfl) (by kernel_rfl) ?q2sx ?y2sx hHeld ?r2sx
          case o2sx => simp only [List.getElem?_toArray, List.getElem?_cons_succ, List.getElem?_cons_zero]; rfl
          case q2sx => exact fun _ _ _ h => h
          case y2sx => (refine Or.inl ⟨rfl, ?_⟩; intro wq hq; obtain ⟨⟨a0, a1⟩, b0, b1⟩ := HS.out wq hq; go_simp; try with_reducible rfl)
          simp only [Act.put, List.setIfInBounds_toArray, List.set_cons_zero, List.set_cons_succ]
          refine wpAnyH_take (i := 3) (oi := ?p3sx) (v := ?v3sx) ?o3sx (by kernel_rfl) (by kernel_rfl) (by kernel_rfl) ?q3sx ?y3sx hHeld ?r3sx
          case o3sx => simp only [List.getElem?_toArray, List.getElem?_cons_succ, List.getElem?_cons_zero]; rfl
          case q3sx => exact fun _ _ _ h => h
          case y3sx => (refine Or.inl ⟨rfl, ?_⟩; intro wq hq; obtain ⟨⟨a0, a1⟩, b0, b1⟩ := HS.out wq hq; go_simp; try with_reducible rfl)
          simp only [Act.put, List.setIfInBounds_toArray, List.set_cons_zero, List.set_cons_succ]
          refine wpAnyH_take (i := 4) (oi := ?p4sx) (v := ?v4sx) ?o4sx (by kernel_rfl) (by kernel_rfl) (by kernel_rfl) ?q4sx ?y4sx hHeld ?r4sx
          case o4sx => simp only [List.getElem?_toArray, List.getElem?_cons_succ, List.getElem?_cons_zero]; rfl
          case q4sx => exact fun _ _ _ h => h
          case y4sx => (refine Or.inl ⟨rfl, ?_⟩; intro wq hq; obtain ⟨⟨a0, a1⟩, b0, b1⟩ := HS.out wq hq; go_simp; try with_reducible rfl)
          simp only [Act.put, List.setIfInBounds_toArray, List.set_cons_zero, List.set_cons_succ]
          refine wpAnyH_take (i := 5) (oi := ?p5sx) (v := ?v5sx) ?o5sx (by kernel_rfl) (by kernel_rfl) (by kernel_rfl) ?q5sx ?y5sx hHeld ?r5sx
          case o5sx => simp only [List.getElem?_toArray, List.getElem?_cons_succ, List.getElem?_cons_zero]; rfl
          case q5sx => exact fun _ _ _ h => h
          case y5sx => (refine Or.inl ⟨rfl, ?_⟩; intro wq hq; obtain ⟨⟨a0, a1⟩, b0, b1⟩ := HS.out wq hq; go_simp; try with_reducible rfl)
          simp only [Act.put, List.setIfInBounds_toArray, List.set_cons_zero, List.set_cons_succ]
          refine wpAnyH_take (i := 6) (oi := ?p6sx) (v := ?v6sx) ?o6sx (by kernel_rfl) (by kernel_rfl) (by kernel_rfl) ?q6sx ?y6sx hHeld ?r6sx
          case o6sx => simp only [List.getElem?_toArray, List.getElem?_cons_succ, List.getElem?_cons_zero]; rfl
          case q6sx => exact fun _ _ _ h => h
          case y6sx => (refine Or.inl ⟨rfl, ?_⟩; intro wq hq; obtain ⟨⟨a0, a1⟩, b0, b1⟩ := HS.out wq hq; go_simp; try with_reducible rfl)
          simp only [Act.put, List.setIfInBounds_toArray, List.set_cons_zero, List.set_cons_succ]
          refine wpAnyH_take (i := 7) (oi := ?p7sx) (v := ?v7sx) ?o7sx (by kernel_rfl) (by kernel_rfl) (by kernel_rfl) ?q7sx ?y7sx hHeld ?r7sx
          case o7sx => simp only [List.getElem?_toArray, List.getElem?_cons_succ, List.getElem?_cons_zero]; rfl
          case q7sx => exact fun _ _ _ h => h
          case y7sx => (refine Or.inl ⟨rfl, ?_⟩; intro wq hq; obtain ⟨⟨a0, a1⟩, b0, b1⟩ := HS.out wq hq; go_simp; try with_reducible rfl)
          simp only [Act.put, List.setIfInBounds_toArray, List.set_cons_zero, List.set_cons_succ]
          refine wpAnyH_take (i := 8) (oi := ?p8sx) (v := ?v8sx) ?o8sx (by kernel_rfl) (by kernel_rfl) (by kernel_rfl) ?q8sx ?y8sx hHeld ?r8sx
          case o8sx => simp only [List.getElem?_toArray, List.getElem?_cons_succ, List.getElem?_cons_zero]; rfl
          case q8sx => exact fun _ _ _ h => h
          case y8sx => (refine Or.inl ⟨rfl, ?_⟩; intro wq hq; obtain ⟨⟨a0, a1⟩, b0, b1⟩ := HS.out wq hq; go_simp; try with_reducible rfl)
          simp only [Act.put, List.setIfInBounds_toArray, List.set_cons_zero, List.set_cons_succ]
          refine wpAnyH_take (i := 9) (oi := ?p9sx) (v := ?v9sx) ?o9sx (by kernel_rfl) (by kernel_rfl) (by kernel_rfl) ?q9sx ?y9sx hHeld ?r9sx
          case o9sx => simp only [List.getElem?_toArray, List.getElem?_cons_succ, List.getElem?_cons_zero]; rfl
          case q9sx => exact fun _ _ _ h => h
          case y9sx => (refine Or.inl ⟨rfl, ?_⟩; intro wq hq; obtain ⟨⟨a0, a1⟩, b0, b1⟩ := HS.out wq hq; go_simp; try with_reducible rfl)
          simp only [Act.put, List.setIfInBounds_toArray, List.set_cons_zero, List.set_cons_succ]
          refine wpAnyH_take (i := 10) (oi := ?p10sx) (v := ?v10sx) ?o10sx (by kernel_rfl) (by kernel_rfl) (by kernel_rfl) ?q10sx ?y10sx hHeld ?r10sx
          case o10sx => simp only [List.getElem?_toArray, List.getElem?_cons_succ, List.getElem?_cons_zero]; rfl
          case q10sx => exact fun _ _ _ h => h
          case y10sx => (refine Or.inl ⟨rfl, ?_⟩; intro wq hq; obtain ⟨⟨a0, a1⟩, b0, b1⟩ := HS.out wq hq; go_simp; try with_reducible rfl)
          simp only [Act.put, List.setIfInBounds_toArray, List.set_cons_zero, List.set_cons_succ]
          refine wpAnyH_take (i := 11) (oi := ?p11sx) (v := ?v11sx) ?o11sx (by kernel_rfl) (by kernel_rfl) (by kernel_rfl) ?q11sx ?y11sx hHeld ?r11sx
          case o11sx => simp only [List.getElem?_toArray, List.getElem?_cons_succ, List.getElem?_cons_zero]; rfl
          case q11sx => exact fun _ _ _ h => h
          case y11sx => (refine Or.inl ⟨rfl, ?_⟩; intro wq hq; obtain ⟨⟨a0, a1⟩, b0, b1⟩ := HS.out wq hq; go_simp; try with_reducible rfl)
          simp only [Act.put, List.setIfInBounds_toArray, List.set_cons_zero, List.set_cons_succ]
          refine wpAnyH_take (i := 12) (oi := ?p12sx) (v := ?v12sx) ?o12sx (by kernel_rfl) (by kernel_rfl) (by kernel_rfl) ?q12sx ?y12sx hHeld ?r12sx
          case o12sx => simp only [List.getElem?_toArray, List.getElem?_cons_succ, List.getElem?_cons_zero]; rfl
          case q12sx => exact fun _ _ _ h => h
          case y12sx => (refine Or.inl ⟨rfl, ?_⟩; intro wq hq; obtain ⟨⟨a0, a1⟩, b0, b1⟩ := HS.out wq hq; go_simp; try with_reducible rfl)
          simp only [Act.put, List.setIfInBounds_toArray, List.set_cons_zero, List.set_cons_succ]
          refine wpAnyH_take (i := 13) (oi := ?p13sx) (v := ?v13sx) ?o13sx (by kernel_rfl) (by kernel_rfl) (by kernel_rfl) ?q13sx ?y13sx hHeld ?r13sx
          case o13sx => simp only [List.getElem?_toArray, List.getElem?_cons_succ, List.getElem?_cons_zero]; rfl
          case q13sx => exact fun _ _ _ h => h
          case y13sx => (refine Or.inl ⟨rfl, ?_⟩; intro wq hq; obtain ⟨⟨a0, a1⟩, b0, b1⟩ := HS.out wq hq; go_simp; try with_reducible rfl)
          simp only [Act.put, List.setIfInBounds_toArray, List.set_cons_zero, List.set_cons_succ]
          refine wpAnyH_take (i := 14) (oi := ?p14sx) (v := ?v14sx) ?o14sx (by kernel_rfl) (by kernel_rfl) (by kernel_rfl) ?q14sx ?y14sx hHeld ?r14sx
          case o14sx => simp only [List.getElem?_toArray, List.getElem?_cons_succ, List.getElem?_cons_zero]; rfl
          case q14sx => exact fun _ _ _ h => h
          case y14sx => (refine Or.inl ⟨rfl, ?_⟩; intro wq hq; obtain ⟨⟨a0, a1⟩, b0, b1⟩ := HS.out wq hq; go_simp; try with_reducible rfl)
          simp only [Act.put, List.setIfInBounds_toArray, List.set_cons_zero, List.set_cons_succ]
          refine wpAnyH_take (i := 15) (oi := ?p15sx) (v := ?v15sx) ?o15sx (by kernel_rfl) (by kernel_rfl) (by kernel_rfl) ?q15sx ?y15sx hHeld ?r15sx
          case o15sx => simp only [List.getElem?_toArray, List.getElem?_cons_succ, List.getElem?_cons_zero]; rfl
          case q15sx => exact fun _ _ _ h => h
          case y15sx => (refine Or.inl ⟨rfl, ?_⟩; intro wq hq; obtain ⟨⟨a0, a1⟩, b0, b1⟩ := HS.out wq hq; go_simp; try with_reducible rfl)
          simp only [Act.put, List.setIfInBounds_toArray, List.set_cons_zero, List.set_cons_succ]
          refine wpAnyH_take (i := 16) (oi := ?p16sx) (v := ?v16sx) ?o16sx (by kernel_rfl) (by kernel_rfl) (by kernel_rfl) ?q16sx ?y16sx hHeld ?r16sx
          case o16sx => simp only [List.getElem?_toArray, List.getElem?_cons_succ, List.getElem?_cons_zero]; rfl
          case q16sx => exact fun _ _ _ h => h
          case y16sx => (refine Or.inl ⟨rfl, ?_⟩; intro wq hq; obtain ⟨⟨a0, a1⟩, b0, b1⟩ := HS.out wq hq; go_simp; try with_reducible rfl)
          simp only [Act.put, List.setIfInBounds_toArray, List.set_cons_zero, List.set_cons_succ]
          refine wpAnyH_take (i := 17) (oi := ?p17sx) (v := ?v17sx) ?o17sx (by kernel_rfl) (by kernel_rfl) (by kernel_rfl) ?q17sx ?y17sx hHeld ?r17sx
          case o17sx => simp only [List.getElem?_toArray, List.getElem?_cons_succ, List.getElem?_cons_zero]; rfl
          case q17sx => exact fun _ _ _ h => h
          case y17sx => (refine Or.inl ⟨rfl, ?_⟩; intro wq hq; obtain ⟨⟨a0, a1⟩, b0, b1⟩ := HS.out wq hq; go_simp; try with_reducible rfl)
          simp only [Act.put, List.setIfInBounds_toArray, List.set_cons_zero, List.set_cons_succ]
          refine wpAnyH_take (i := 18) (oi := ?p18sx) (v := ?v18sx) ?o18sx (by kernel_rfl) (by kernel_rfl) (by kernel_rfl) ?q18sx ?y18sx hHeld ?r18sx
          case o18sx => simp only [List.getElem?_toArray, List.getElem?_cons_succ, List.getElem?_cons_zero]; rfl
          case q18sx => exact fun _ _ _ h => h
          case y18sx => (refine Or.inl ⟨rfl, ?_⟩; intro wq hq; obtain ⟨⟨a0, a1⟩, b0, b1⟩ := HS.out wq hq; go_simp; try with_reducible rfl)
          simp only [Act.put, List.setIfInBounds_toArray, List.set_cons_zero, List.set_cons_succ]
          refine wpAnyH_take (i := 19) (oi := ?p19sx) (v := ?v19sx) ?o19sx (by kernel_rfl) (by kernel_rfl) (by kernel_rfl) ?q19sx ?y19sx hHeld ?r19sx
          case o19sx => simp only [List.getElem?_toArray, List.getElem?_cons_succ, List.getElem?_cons_zero]; rfl
          case q19sx => exact fun _ _ _ h => h
          case y19sx => (refine Or.inl ⟨rfl, ?_⟩; intro wq hq; obtain ⟨⟨a0, a1⟩, b0, b1⟩ := HS.out wq hq; go_simp; try with_reducible rfl)
          simp only [Act.put, List.setIfInBounds_toArray, List.set_cons_zero, List.set_cons_succ]
          refine wpAnyH_take (i := 20) (oi := ?p20sx) (v := ?v20sx) ?o20sx (by kernel_rfl) (by kernel_rfl) (by kernel_rfl) ?q20sx ?y20sx hHeld ?r20sx
          case o20sx => simp only [List.getElem?_toArray, List.getElem?_cons_succ, List.getElem?_cons_zero]; rfl
          case q20sx => exact fun _ _ _ h => h
          case y20sx => (refine Or.inl ⟨rfl, ?_⟩; intro wq hq; obtain ⟨⟨a0, a1⟩, b0, b1⟩ := HS.out wq hq; go_simp; try with_reducible rfl)
          simp only [Act.put, List.setIfInBounds_toArray, List.set_cons_zero, List.set_cons_succ]
          refine wpAnyH_take (i := 21) (oi := ?p21sx) (v := ?v21sx) ?o21sx (by kernel_rfl) (by kernel_rfl) (by kernel_rfl) ?q21sx ?y21sx hHeld ?r21sx
          case o21sx => simp only [List.getElem?_toArray, List.getElem?_cons_succ, List.getElem?_cons_zero]; rfl
          case q21sx => exact fun _ _ _ h => h
          case y21sx => (refine Or.inl ⟨rfl, ?_⟩; intro wq hq; obtain ⟨⟨a0, a1⟩, b0, b1⟩ := HS.out wq hq; go_simp; try with_reducible rfl)
          simp only [Act.put, List.setIfInBounds_toArray, List.set_cons_zero, List.set_cons_succ]
          refine wpAnyH_take (i := 22) (oi := ?p22sx) (v := ?v22sx) ?o22sx (by kernel_rfl) (by kernel_rfl) (by kernel_rfl) ?q22sx ?y22sx hHeld ?r22sx
          case o22sx => simp only [List.getElem?_toArray, List.getElem?_cons_succ, List.getElem?_cons_zero]; rfl
          case q22sx => exact fun _ _ _ h => h
          case y22sx => (refine Or.inl ⟨rfl, ?_⟩; intro wq hq; obtain ⟨⟨a0, a1⟩, b0, b1⟩ := HS.out wq hq; go_simp; try with_reducible rfl)
          simp only [Act.put, List.setIfInBounds_toArray, List.set_cons_zero, List.set_cons_succ]
          refine wpAnyH_take (i := 23) (oi := ?p23sx) (v := undef) ?o23sx (by kernel_rfl) (by kernel_rfl) (by kernel_rfl) ?q23sx ?y23sx hHeld ?r23sx
          case o23sx => simp only [List.getElem?_toArray, List.getElem?_cons_succ, List.getElem?_cons_zero]; rfl
          case q23sx => exact fun _ _ _ h => h
          case y23sx => exact Or.inr ⟨rfl, rfl⟩
          simp only [Act.put, List.setIfInBounds_toArray, List.set_cons_zero, List.set_cons_succ]
          refine wpAnyH_take (i := 24) (oi := ?p24sx) (v := undef) ?o24sx (by kernel_rfl) (by kernel_rfl) (by kernel_rfl) ?q24sx ?y24sx hHeld ?r24sx
          case o24sx => simp only [List.getElem?_toArray, List.getElem?_cons_succ, List.getElem?_cons_zero]; rfl
          case q24sx => exact fun _ _ _ h => h
          case y24sx => exact Or.inr ⟨rfl, rfl⟩
          simp only [Act.put, List.setIfInBounds_toArray, List.set_cons_zero, List.set_cons_succ]
          refine wpAnyH_take (i := 25) (oi := ?p25sx) (v := undef) ?o25sx (by kernel_rfl) (by kernel_rfl) (by kernel_rfl) ?q25sx ?y25sx hHeld ?r25sx
          case o25sx => simp only [List.getElem?_toArray, List.getElem?_cons_succ, List.getElem?_cons_zero]; rfl
          case q25sx => exact fun _ _ _ h => h
          case y25sx => exact Or.inr ⟨rfl, rfl⟩
          simp only [Act.put, List.setIfInBounds_toArray, List.set_cons_zero, List.set_cons_succ]
          refine wpAnyH_take (i := 26) (oi := ?p26sx) (v := ?v26sx) ?o26sx (by kernel_rfl) (by kernel_rfl) (by kernel_rfl) ?q26sx ?y26sx hHeld ?r26sx
          case o26sx => simp only [List.getElem?_toArray, List.getElem?_cons_succ, List.getElem?_cons_zero]; rfl
          case q26sx => exact fun _ _ _ h => h
          case y26sx => (refine Or.inl ⟨rfl, ?_⟩; intro wq hq; obtain ⟨⟨a0, a1⟩, b0, b1⟩ := HS.out wq hq; go_simp; try with_reducible rfl)
          simp only [Act.put, List.setIfInBounds_toArray, List.set_cons_zero, List.set_cons_succ]
          refine wpAnyH_take (i := 27) (oi := ?p27sx) (v := ?v27sx) ?o27sx (by kernel_rfl) (by kernel_rfl) (by kernel_rfl) ?q27sx ?y27sx hHeld ?r27sx
          case o27sx => simp only [List.getElem?_toArray, List.getElem?_cons_succ, List.getElem?_cons_zero]; rfl
          case q27sx => exact fun _ _ _ h => h
          case y27sx => (refine Or.inl ⟨rfl, ?_⟩; intro wq hq; obtain ⟨⟨a0, a1⟩, b0, b1⟩ := HS.out wq hq; go_simp; try with_reducible rfl)
          simp only [Act.put, List.setIfInBounds_toArray, List.set_cons_zero, List.set_cons_succ]
          refine wpAnyH_take (i := 28) (oi := ?p28sx) (v := ?v28sx) ?o28sx (by kernel_rfl) (by kernel_rfl) (by kernel_rfl) ?q28sx ?y28sx hHeld ?r28sx
          case o28sx => simp only [List.getElem?_toArray, List.getElem?_cons_succ, List.getElem?_cons_zero]; rfl
          case q28sx => exact fun _ _ _ h => h
          case y28sx => (refine Or.inl ⟨rfl, ?_⟩; intro wq hq; obtain ⟨⟨a0, a1⟩, b0, b1⟩ := HS.out wq hq; go_simp; try with_reducible rfl)
          simp only [Act.put, List.setIfInBounds_toArray, List.set_cons_zero, List.set_cons_succ]
          refine wpAnyH_take (i := 29) (oi := ?p29sx) (v := ?v29sx) ?o29sx (by kernel_rfl) (by kernel_rfl) (by kernel_rfl) ?q29sx ?y29sx hHeld ?r29sx
          case o29sx => simp only [List.getElem?_toArray, List.getElem?_cons_succ, List.getElem?_cons_zero]; rfl
          case q29sx => exact fun _ _ _ h => h
          case y29sx => (refine Or.inl ⟨rfl, ?_⟩; intro wq hq; obtain ⟨⟨a0, a1⟩, b0, b1⟩ := HS.out wq hq; go_simp; try with_reducible rfl)
          simp only [Act.put, List.setIfInBounds_toArray, List.set_cons_zero, List.set_cons_succ]
          refine wpAnyH_take (i := 31) (oi := ?p31sx) (v := ?v31sx) ?o31sx (by kernel_rfl) (by kernel_rfl) (by kernel_rfl) ?q31sx ?y31sx hHeld ?r31sx
          case o31sx => simp only [List.getElem?_toArray, List.getElem?_cons_succ, List.getElem?_cons_zero]; rfl
          case q31sx => exact fun _ _ _ h => h
          case y31sx => (refine Or.inl ⟨rfl, ?_⟩; intro wq hq; obtain ⟨⟨a0, a1⟩, b0, b1⟩ := HS.out wq hq; go_simp; try with_reducible rfl)
          simp only [Act.put, List.setIfInBounds_toArray, List.set_cons_zero, List.set_cons_succ]
          refine wpAnyH_take (i := 32) (oi := ?p32sx) (v := ?v32sx) ?o32sx (by kernel_rfl) (by kernel_rfl) (by kernel_rfl) ?q32sx ?y32sx hHeld ?r32sx
          case o32sx => simp only [List.getElem?_toArray, List.getElem?_cons_succ, List.getElem?_cons_zero]; rfl
          case q32sx => exact fun _ _ _ h => h
          case y32sx => (refine Or.inl ⟨rfl, ?_⟩; intro wq hq; obtain ⟨⟨a0, a1⟩, b0, b1⟩ := HS.out wq hq; go_simp; try with_reducible rfl)
          simp only [Act.put, List.setIfInBounds_toArray, List.set_cons_zero, List.set_cons_succ]
          refine wpAnyH_ready (rs := [30]) (by kernel_rfl) (by simp) ?_
          refine AllReadyH.cons (o := ?p30sx) ?o30sx ?s30sx AllReadyH.nil
          case o30sx => simp only [List.getElem?_toArray, List.getElem?_cons_succ, List.getElem?_cons_zero]; rfl
          intro K hK
          go_simp
          refine (HM.out _ hHeld).ts.len.mono ?_
          rintro e wA ⟨rfl, rfl⟩
          refine hK.out _ _ hHeld (fun hHeld => ?_)
          clear hK K
          refine wpAnyH_take (i := 33) (oi := ?p33sx) (v := ?v33sx) ?o33sx (by kernel_rfl) (by kernel_rfl) (by kernel_rfl) ?q33sx ?y33sx hHeld ?r33sx
          case o33sx => simp only [List.getElem?_toArray, List.getElem?_cons_succ, List.getElem?_cons_zero]; rfl
          case q33sx => exact fun _ _ _ h => h
          case y33sx => (refine Or.inl ⟨rfl, ?_⟩; intro wq hq; obtain ⟨⟨a0, a1⟩, b0, b1⟩ := HS.out wq hq; go_simp; try with_reducible rfl)
          simp only [Act.put, List.setIfInBounds_toArray, List.set_cons_zero, List.set_cons_succ]
          refine wpAnyH_take (i := 34) (oi := ?p34sx) (v := ?v34sx) ?o34sx (by kernel_rfl) (by kernel_rfl) (by kernel_rfl) ?q34sx ?y34sx hHeld ?r34sx
          case o34sx => simp only [List.getElem?_toArray, List.getElem?_cons_succ, List.getElem?_cons_zero]; rfl
          case q34sx => exact fun _ _ _ h => h
          case y34sx => (refine Or.inl ⟨rfl, ?_⟩; intro wq hq; obtain ⟨⟨a0, a1⟩, b0, b1⟩ := HS.out wq hq; go_simp; try with_reducible rfl)
          simp only [Act.put, List.setIfInBounds_toArray, List.set_cons_zero, List.set_cons_succ]
          refine wpAnyH_take (i := 35) (oi := ?p35sx) (v := ?v35sx) ?o35sx (by kernel_rfl) (by kernel_rfl) (by kernel_rfl) ?q35sx ?y35sx hHeld ?r35sx
          case o35sx => simp only [List.getElem?_toArray, List.getElem?_cons_succ, List.getElem?_cons_zero]; rfl
          case q35sx => exact fun _ _ _ h => h
          case y35sx => (refine Or.inl ⟨rfl, ?_⟩; intro wq hq; obtain ⟨⟨a0, a1⟩, b0, b1⟩ := HS.out wq hq; go_simp; try with_reducible rfl)
          simp only [Act.put, List.setIfInBounds_toArray, List.set_cons_zero, List.set_cons_succ]
          refine wpAnyH_take (i := 36) (oi := ?p36sx) (v := ?v36sx) ?o36sx (by kernel_rfl) (by kernel_rfl) (by kernel_rfl) ?q36sx ?y36sx hHeld ?r36sx
          case o36sx => simp only [List.getElem?_toArray, List.getElem?_cons_succ, List.getElem?_cons_zero]; rfl
          case q36sx => exact fun _ _ _ h => h
          case y36sx => (refine Or.inl ⟨rfl, ?_⟩; intro wq hq; obtain ⟨⟨a0, a1⟩, b0, b1⟩ := HS.out wq hq; go_simp; try with_reducible rfl)
          simp only [Act.put, List.setIfInBounds_toArray, List.set_cons_zero, List.set_cons_succ]
          refine wpAnyH_take (i := 38) (oi := ?p38sx) (v := ?v38sx) ?o38sx (by kernel_rfl) (by kernel_rfl) (by kernel_rfl) ?q38sx ?y38sx hHeld ?r38sx
          case o38sx => simp only [List.getElem?_toArray, List.getElem?_cons_succ, List.getElem?_cons_zero]; rfl
          case q38sx => exact fun _ _ _ h => h
          case y38sx => (refine Or.inl ⟨rfl, ?_⟩; intro wq hq; obtain ⟨⟨a0, a1⟩, b0, b1⟩ := HS.out wq hq; go_simp; try with_reducible rfl)
          simp only [Act.put, List.setIfInBounds_toArray, List.set_cons_zero, List.set_cons_succ]
          refine wpAnyH_ready (rs := [37]) (by kernel_rfl) (by simp) ?_
          refine AllReadyH.cons (o := ?p37sx) ?o37sx ?s37sx AllReadyH.nil
          case o37sx => simp only [List.getElem?_toArray, List.getElem?_cons_succ, List.getElem?_cons_zero]; rfl
          intro K hK
          go_simp
          refine (HM.out _ hHeld).ts.all.mono ?_
          rintro e wB ⟨aB, cB, rfl, atB, _, BB, _⟩
          have BB2 := bel_up hHeld BB (Nat.le_refl _)
          have HAB := Hid_of atB
          clear BB atB
          refine hK.out _ _ BB2 (fun hHeld => ?_)
          clear hK K
          refine wpAnyH_ready (rs := [39]) (by kernel_rfl) (by simp) ?_
          refine AllReadyH.cons (o := ?p39sx) ?o39sx ?s39sx AllReadyH.nil
          case o39sx => simp only [List.getElem?_toArray, List.getElem?_cons_succ, List.getElem?_cons_zero]; rfl
          intro K hK
          go_simp
          have hsm := same_any aB cB (some ⟨bx, ox, none⟩) cx P _ (by omega) HAB.out (HM.out _ hHeld).y.at'
          refine hsm.mono ?_
          rintro e wC ⟨rfl, BC⟩
          have BC2 := bel_up hHeld BC (Nat.le_refl _)
          clear BC hsm
          refine hK.out _ _ BC2 (fun hHeld => ?_)
          clear hK K
          refine wpAnyH_take (i := 40) (oi := ?p40sx) (v := ?v40sx) ?o40sx (by kernel_rfl) (by kernel_rfl) (by kernel_rfl) ?q40sx ?y40sx hHeld ?r40sx
          case o40sx => simp only [List.getElem?_toArray, List.getElem?_cons_succ, List.getElem?_cons_zero]; rfl
          case q40sx => exact fun _ _ _ h => h
          case y40sx => (refine Or.inl ⟨rfl, ?_⟩; intro wq hq; obtain ⟨⟨a0, a1⟩, b0, b1⟩ := HS.out wq hq; go_simp; try with_reducible rfl)
          simp only [Act.put, List.setIfInBounds_toArray, List.set_cons_zero, List.set_cons_succ]
          refine wpAnyH_take (i := 41) (oi := ?p41sx) (v := ?v41sx) ?o41sx (by kernel_rfl) (by kernel_rfl) (by kernel_rfl) ?q41sx ?y41sx hHeld ?r41sx
          case o41sx => simp only [List.getElem?_toArray, List.getElem?_cons_succ, List.getElem?_cons_zero]; rfl
          case q41sx => exact fun _ _ _ h => h
          case y41sx => (refine Or.inl ⟨rfl, ?_⟩; intro wq hq; obtain ⟨⟨a0, a1⟩, b0, b1⟩ := HS.out wq hq; go_simp; try with_reducible rfl)
          simp only [Act.put, List.setIfInBounds_toArray, List.set_cons_zero, List.set_cons_succ]
          refine wpAnyH_done (by kernel_rfl) ?_ _
          go_wp2
          go_roundw
          case rel => exact ⟨k + 1, P, v, (some ⟨bx, ox, none⟩), cx, by omega, rfl, by go_num, (HM.out _ hHeld)⟩
          case measure => simp [intOf]; omega
        · have hP0 : P = [] := List.length_eq_zero_iff.1 (by omega)
          have HPZ := Hid_of hP0
          rw [hP0, show hdB [] = false from rfl, show hdV [] = .agg #[.int .i64 0, .int .i64 0] from rfl] at hnx
          have hl0 : P.length = 0 := by omega
          rw [hl0]
          clear hpos hP0
          go_wp2_with fail
          refine hnx.mono ?_
          rintro e w20 ⟨rfl, B20, _⟩
          have HBW : Hid (Below W1.heap.size W1 (w20.alloc (.cells #[.int .i64 0, .int .i64 0] 42))) := bel_up B20 (bel1 w20 _) (Nat.le_refl _)
          have HRW : Hid ((w20.alloc (.cells #[.int .i64 0, .int .i64 0] 42)).heap[w20.heap.size]? = some (.cells #[.int .i64 0, .int .i64 0] 42 (0, 0)) ∧ w20.heap.size < (w20.alloc (.cells #[.int .i64 0, .int .i64 0] 42)).heap.size) := ⟨heap_alloc_last _ _, by simp⟩
          obtain ⟨W4, HW4⟩ : ∃ W4, Hid (w20.alloc (.cells #[.int .i64 0, .int .i64 0] 42) = W4) := ⟨_, rfl⟩
          rw [HW4.out] at HBW HRW
          have HS : Hid (∀ wq, Below W4.heap.size W4 wq → (wq.cell? ⟨w20.heap.size, 0, none⟩ = some (.int .i64 0) ∧ wq.cell? ⟨w20.heap.size, 1, none⟩ = some (.int .i64 0)) ∧ True) := fun wq hq => ⟨(row2 ((hq.block _ HRW.out.2).trans HRW.out.1)).1, trivial⟩
          have HM : Hid (∀ wq, Below W4.heap.size W4 wq → PX w wq b v P ax) := fun wq hq => HP.out.keep (bel_up HBW.out hq (Nat.le_refl _))
          clear B20 hnx HP HRW HBW
          go_wp2_with fail
          rw [HW4.out]
          clear HW4
          refine wp_region_held_drew (S := fun wq => Below (W4).heap.size (W4) wq) (by kernel_rfl) (Below.drew (Below.refl _ _)) (fun hHeld => ?_)
          refine wpAnyH_take (i := 0) (oi := ?p0sy) (v := ?v0sy) ?o0sy (by kernel_rfl) (by kernel_rfl) (by kernel_rfl) ?q0sy ?y0sy hHeld ?r0sy
          case o0sy => simp only [List.getElem?_toArray, List.getElem?_cons_zero]; rfl
          case q0sy => exact fun _ _ _ h => h
          case y0sy => (refine Or.inl ⟨rfl, ?_⟩; intro wq hq; obtain ⟨⟨a0, a1⟩, _⟩ := HS.out wq hq; go_simp; try with_reducible rfl)
          simp only [Act.put, List.setIfInBounds_toArray, List.set_cons_zero, List.set_cons_succ]
          refine wpAnyH_take (i := 1) (oi := ?p1sy) (v := ?v1sy) ?o1sy (by kernel_rfl) (by kernel_rfl) (by kernel_rfl) ?q1sy ?y1sy hHeld ?r1sy
          case o1sy => simp only [List.getElem?_toArray, List.getElem?_cons_succ, List.getElem?_cons_zero]; rfl
          case q1sy => exact fun _ _ _ h => h
          case y1sy => (refine Or.inl ⟨rfl, ?_⟩; intro wq hq; obtain ⟨⟨a0, a1⟩, _⟩ := HS.out wq hq; go_simp; try with_reducible rfl)
          simp only [Act.put, List.setIfInBounds_toArray, List.set_cons_zero, List.set_cons_succ]
          refine wpAnyH_take (i := 2) (oi := ?p2sy) (v := ?v2sy) ?o2sy (by kernel_rfl) (by kernel_rfl) (by kernel_rfl) ?q2sy ?y2sy hHeld ?r2sy
          case o2sy => simp only [List.getElem?_toArray, List.getElem?_cons_succ, List.getElem?_cons_zero]; rfl
          case q2sy => exact fun _ _ _ h => h
          case y2sy => (refine Or.inl ⟨rfl, ?_⟩; intro wq hq; obtain ⟨⟨a0, a1⟩, _⟩ := HS.out wq hq; go_simp; try with_reducible rfl)
          simp only [Act.put, List.setIfInBounds_toArray, List.set_cons_zero, List.set_cons_succ]
          refine wpAnyH_take (i := 3) (oi := ?p3sy) (v := ?v3sy) ?o3sy (by kernel_rfl) (by kernel_rfl) (by kernel_rfl) ?q3sy ?y3sy hHeld ?r3sy
          case o3sy => simp only [List.getElem?_toArray, List.getElem?_cons_succ, List.getElem?_cons_zero]; rfl
          case q3sy => exact fun _ _ _ h => h
          case y3sy => (refine Or.inl ⟨rfl, ?_⟩; intro wq hq; obtain ⟨⟨a0, a1⟩, _⟩ := HS.out wq hq; go_simp; try with_reducible rfl)
          simp only [Act.put, List.setIfInBounds_toArray, List.set_cons_zero, List.set_cons_succ]
          refine wpAnyH_take (i := 4) (oi := ?p4sy) (v := ?v4sy) ?o4sy (by kernel_rfl) (by kernel_rfl) (by kernel_rfl) ?q4sy ?y4sy hHeld ?r4sy
          case o4sy => simp only [List.getElem?_toArray, List.getElem?_cons_succ, List.getElem?_cons_zero]; rfl
          case q4sy => exact fun _ _ _ h => h
          case y4sy => (refine Or.inl ⟨rfl, ?_⟩; intro wq hq; obtain ⟨⟨a0, a1⟩, _⟩ := HS.out wq hq; go_simp; try with_reducible rfl)
          simp only [Act.put, List.setIfInBounds_toArray, List.set_cons_zero, List.set_cons_succ]
          refine wpAnyH_take (i := 5) (oi := ?p5sy) (v := ?v5sy) ?o5sy (by kernel_rfl) (by kernel_rfl) (by kernel_rfl) ?q5sy ?y5sy hHeld ?r5sy
          case o5sy => simp only [List.getElem?_toArray, List.getElem?_cons_succ, List.getElem?_cons_zero]; rfl
          case q5sy => exact fun _ _ _ h => h
          case y5sy => (refine Or.inl ⟨rfl, ?_⟩; intro wq hq; obtain ⟨⟨a0, a1⟩, _⟩ := HS.out wq hq; go_simp; try with_reducible rfl)
          simp only [Act.put, List.setIfInBounds_toArray, List.set_cons_zero, List.set_cons_succ]
          refine wpAnyH_take (i := 6) (oi := ?p6sy) (v := ?v6sy) ?o6sy (by kernel_rfl) (by kernel_rfl) (by kernel_rfl) ?q6sy ?y6sy hHeld ?r6sy
          case o6sy => simp only [List.getElem?_toArray, List.getElem?_cons_succ, List.getElem?_cons_zero]; rfl
          case q6sy => exact fun _ _ _ h => h
          case y6sy => (refine Or.inl ⟨rfl, ?_⟩; intro wq hq; obtain ⟨⟨a0, a1⟩, _⟩ := HS.out wq hq; go_simp; try with_reducible rfl)
          simp only [Act.put, List.setIfInBounds_toArray, List.set_cons_zero, List.set_cons_succ]
          refine wpAnyH_take (i := 7) (oi := ?p7sy) (v := ?v7sy) ?o7sy (by kernel_rfl) (by kernel_rfl) (by kernel_rfl) ?q7sy ?y7sy hHeld ?r7sy
          case o7sy => simp only [List.getElem?_toArray, List.getElem?_cons_succ, List.getElem?_cons_zero]; rfl
          case q7sy => exact fun _ _ _ h => h
          case y7sy => (refine Or.inl ⟨rfl, ?_⟩; intro wq hq; obtain ⟨⟨a0, a1⟩, _⟩ := HS.out wq hq; go_simp; try with_reducible rfl)
          simp only [Act.put, List.setIfInBounds_toArray, List.set_cons_zero, List.set_cons_succ]
          refine wpAnyH_take (i := 8) (oi := ?p8sy) (v := ?v8sy) ?o8sy (by kernel_rfl) (by kernel_rfl) (by kernel_rfl) ?q8sy ?y8sy hHeld ?r8sy
          case o8sy => simp only [List.getElem?_toArray, List.getElem?_cons_succ, List.getElem?_cons_zero]; rfl
          case q8sy => exact fun _ _ _ h => h
          case y8sy => (refine Or.inl ⟨rfl, ?_⟩; intro wq hq; obtain ⟨⟨a0, a1⟩, _⟩ := HS.out wq hq; go_simp; try with_reducible rfl)
          simp only [Act.put, List.setIfInBounds_toArray, List.set_cons_zero, List.set_cons_succ]
          refine wpAnyH_take (i := 9) (oi := ?p9sy) (v := ?v9sy) ?o9sy (by kernel_rfl) (by kernel_rfl) (by kernel_rfl) ?q9sy ?y9sy hHeld ?r9sy
          case o9sy => simp only [List.getElem?_toArray, List.getElem?_cons_succ, List.getElem?_cons_zero]; rfl
          case q9sy => exact fun _ _ _ h => h
          case y9sy => (refine Or.inl ⟨rfl, ?_⟩; intro wq hq; obtain ⟨⟨a0, a1⟩, _⟩ := HS.out wq hq; go_simp; try with_reducible rfl)
          simp only [Act.put, List.setIfInBounds_toArray, List.set_cons_zero, List.set_cons_succ]
          refine wpAnyH_take (i := 10) (oi := ?p10sy) (v := ?v10sy) ?o10sy (by kernel_rfl) (by kernel_rfl) (by kernel_rfl) ?q10sy ?y10sy hHeld ?r10sy
          case o10sy => simp only [List.getElem?_toArray, List.getElem?_cons_succ, List.getElem?_cons_zero]; rfl
          case q10sy => exact fun _ _ _ h => h
          case y10sy => (refine Or.inl ⟨rfl, ?_⟩; intro wq hq; obtain ⟨⟨a0, a1⟩, _⟩ := HS.out wq hq; go_simp; try with_reducible rfl)
          simp only [Act.put, List.setIfInBounds_toArray, List.set_cons_zero, List.set_cons_succ]
          refine wpAnyH_take (i := 11) (oi := ?p11sy) (v := ?v11sy) ?o11sy (by kernel_rfl) (by kernel_rfl) (by kernel_rfl) ?q11sy ?y11sy hHeld ?r11sy
          case o11sy => simp only [List.getElem?_toArray, List.getElem?_cons_succ, List.getElem?_cons_zero]; rfl
          case q11sy => exact fun _ _ _ h => h
          case y11sy => (refine Or.inl ⟨rfl, ?_⟩; intro wq hq; obtain ⟨⟨a0, a1⟩, _⟩ := HS.out wq hq; go_simp; try with_reducible rfl)
          simp only [Act.put, List.setIfInBounds_toArray, List.set_cons_zero, List.set_cons_succ]
          refine wpAnyH_take (i := 12) (oi := ?p12sy) (v := undef) ?o12sy (by kernel_rfl) (by kernel_rfl) (by kernel_rfl) ?q12sy ?y12sy hHeld ?r12sy
          case o12sy => simp only [List.getElem?_toArray, List.getElem?_cons_succ, List.getElem?_cons_zero]; rfl
          case q12sy => exact fun _ _ _ h => h
          case y12sy => exact Or.inr ⟨rfl, rfl⟩
          simp only [Act.put, List.setIfInBounds_toArray, List.set_cons_zero, List.set_cons_succ]
          refine wpAnyH_take (i := 13) (oi := ?p13sy) (v := undef) ?o13sy (by kernel_rfl) (by kernel_rfl) (by kernel_rfl) ?q13sy ?y13sy hHeld ?r13sy
          case o13sy => simp only [List.getElem?_toArray, List.getElem?_cons_succ, List.getElem?_cons_zero]; rfl
          case q13sy => exact fun _ _ _ h => h
          case y13sy => exact Or.inr ⟨rfl, rfl⟩
          simp only [Act.put, List.setIfInBounds_toArray, List.set_cons_zero, List.set_cons_succ]
          refine wpAnyH_take (i := 14) (oi := ?p14sy) (v := undef) ?o14sy (by kernel_rfl) (by kernel_rfl) (by kernel_rfl) ?q14sy ?y14sy hHeld ?r14sy
          case o14sy => simp only [List.getElem?_toArray, List.getElem?_cons_succ, List.getElem?_cons_zero]; rfl
          case q14sy => exact fun _ _ _ h => h
          case y14sy => exact Or.inr ⟨rfl, rfl⟩
          simp only [Act.put, List.setIfInBounds_toArray, List.set_cons_zero, List.set_cons_succ]
          refine wpAnyH_take (i := 15) (oi := ?p15sy) (v := undef) ?o15sy (by kernel_rfl) (by kernel_rfl) (by kernel_rfl) ?q15sy ?y15sy hHeld ?r15sy
          case o15sy => simp only [List.getElem?_toArray, List.getElem?_cons_succ, List.getElem?_cons_zero]; rfl
          case q15sy => exact fun _ _ _ h => h
          case y15sy => exact Or.inr ⟨rfl, rfl⟩
          simp only [Act.put, List.setIfInBounds_toArray, List.set_cons_zero, List.set_cons_succ]
          refine wpAnyH_take (i := 16) (oi := ?p16sy) (v := undef) ?o16sy (by kernel_rfl) (by kernel_rfl) (by kernel_rfl) ?q16sy ?y16sy hHeld ?r16sy
          case o16sy => simp only [List.getElem?_toArray, List.getElem?_cons_succ, List.getElem?_cons_zero]; rfl
          case q16sy => exact fun _ _ _ h => h
          case y16sy => exact Or.inr ⟨rfl, rfl⟩
          simp only [Act.put, List.setIfInBounds_toArray, List.set_cons_zero, List.set_cons_succ]
          refine wpAnyH_take (i := 17) (oi := ?p17sy) (v := ?v17sy) ?o17sy (by kernel_rfl) (by kernel_rfl) (by kernel_rfl) ?q17sy ?y17sy hHeld ?r17sy
          case o17sy => simp only [List.getElem?_toArray, List.getElem?_cons_succ, List.getElem?_cons_zero]; rfl
          case q17sy => exact fun _ _ _ h => h
          case y17sy => (refine Or.inl ⟨rfl, ?_⟩; intro wq hq; obtain ⟨⟨a0, a1⟩, _⟩ := HS.out wq hq; go_simp; try with_reducible rfl)
          simp only [Act.put, List.setIfInBounds_toArray, List.set_cons_zero, List.set_cons_succ]
          refine wpAnyH_take (i := 18) (oi := ?p18sy) (v := ?v18sy) ?o18sy (by kernel_rfl) (by kernel_rfl) (by kernel_rfl) ?q18sy ?y18sy hHeld ?r18sy
          case o18sy => simp only [List.getElem?_toArray, List.getElem?_cons_succ, List.getElem?_cons_zero]; rfl
          case q18sy => exact fun _ _ _ h => h
          case y18sy => (refine Or.inl ⟨rfl, ?_⟩; intro wq hq; obtain ⟨⟨a0, a1⟩, _⟩ := HS.out wq hq; go_simp; try with_reducible rfl)
          simp only [Act.put, List.setIfInBounds_toArray, List.set_cons_zero, List.set_cons_succ]
          refine wpAnyH_take (i := 19) (oi := ?p19sy) (v := ?v19sy) ?o19sy (by kernel_rfl) (by kernel_rfl) (by kernel_rfl) ?q19sy ?y19sy hHeld ?r19sy
          case o19sy => simp only [List.getElem?_toArray, List.getElem?_cons_succ, List.getElem?_cons_zero]; rfl
          case q19sy => exact fun _ _ _ h => h
          case y19sy => (refine Or.inl ⟨rfl, ?_⟩; intro wq hq; obtain ⟨⟨a0, a1⟩, _⟩ := HS.out wq hq; go_simp; try with_reducible rfl)
          simp only [Act.put, List.setIfInBounds_toArray, List.set_cons_zero, List.set_cons_succ]
          refine wpAnyH_take (i := 20) (oi := ?p20sy) (v := ?v20sy) ?o20sy (by kernel_rfl) (by kernel_rfl) (by kernel_rfl) ?q20sy ?y20sy hHeld ?r20sy
          case o20sy => simp only [List.getElem?_toArray, List.getElem?_cons_succ, List.getElem?_cons_zero]; rfl
          case q20sy => exact fun _ _ _ h => h
          case y20sy => (refine Or.inl ⟨rfl, ?_⟩; intro wq hq; obtain ⟨⟨a0, a1⟩, _⟩ := HS.out wq hq; go_simp; try with_reducible rfl)
          simp only [Act.put, List.setIfInBounds_toArray, List.set_cons_zero, List.set_cons_succ]
          refine wpAnyH_take (i := 21) (oi := ?p21sy) (v := ?v21sy) ?o21sy (by kernel_rfl) (by kernel_rfl) (by kernel_rfl) ?q21sy ?y21sy hHeld ?r21sy
          case o21sy => simp only [List.getElem?_toArray, List.getElem?_cons_succ, List.getElem?_cons_zero]; rfl
          case q21sy => exact fun _ _ _ h => h
          case y21sy => (refine Or.inl ⟨rfl, ?_⟩; intro wq hq; obtain ⟨⟨a0, a1⟩, _⟩ := HS.out wq hq; go_simp; try with_reducible rfl)
          simp only [Act.put, List.setIfInBounds_toArray, List.set_cons_zero, List.set_cons_succ]
          refine wpAnyH_take (i := 22) (oi := ?p22sy) (v := ?v22sy) ?o22sy (by kernel_rfl) (by kernel_rfl) (by kernel_rfl) ?q22sy ?y22sy hHeld ?r22sy
          case o22sy => simp only [List.getElem?_toArray, List.getElem?_cons_succ, List.getElem?_cons_zero]; rfl
          case q22sy => exact fun _ _ _ h => h
          case y22sy => (refine Or.inl ⟨rfl, ?_⟩; intro wq hq; obtain ⟨⟨a0, a1⟩, _⟩ := HS.out wq hq; go_simp; try with_reducible rfl)
          simp only [Act.put, List.setIfInBounds_toArray, List.set_cons_zero, List.set_cons_succ]
          refine wpAnyH_take (i := 23) (oi := ?p23sy) (v := ?v23sy) ?o23sy (by kernel_rfl) (by kernel_rfl) (by kernel_rfl) ?q23sy ?y23sy hHeld ?r23sy
          case o23sy => simp only [List.getElem?_toArray, List.getElem?_cons_succ, List.getElem?_cons_zero]; rfl
          case q23sy => exact fun _ _ _ h => h
          case y23sy => (refine Or.inl ⟨rfl, ?_⟩; intro wq hq; obtain ⟨⟨a0, a1⟩, _⟩ := HS.out wq hq; go_simp; try with_reducible rfl)
          simp only [Act.put, List.setIfInBounds_toArray, List.set_cons_zero, List.set_cons_succ]
          refine wpAnyH_take (i := 24) (oi := ?p24sy) (v := ?v24sy) ?o24sy (by kernel_rfl) (by kernel_rfl) (by kernel_rfl) ?q24sy ?y24sy hHeld ?r24sy
          case o24sy => simp only [List.getElem?_toArray, List.getElem?_cons_succ, List.getElem?_cons_zero]; rfl
          case q24sy => exact fun _ _ _ h => h
          case y24sy => (refine Or.inl ⟨rfl, ?_⟩; intro wq hq; obtain ⟨⟨a0, a1⟩, _⟩ := HS.out wq hq; go_simp; try with_reducible rfl)
          simp only [Act.put, List.setIfInBounds_toArray, List.set_cons_zero, List.set_cons_succ]
          refine wpAnyH_take (i := 25) (oi := ?p25sy) (v := ?v25sy) ?o25sy (by kernel_rfl) (by kernel_rfl) (by kernel_rfl) ?q25sy ?y25sy hHeld ?r25sy
          case o25sy => simp only [List.getElem?_toArray, List.getElem?_cons_succ, List.getElem?_cons_zero]; rfl
          case q25sy => exact fun _ _ _ h => h
          case y25sy => (refine Or.inl ⟨rfl, ?_⟩; intro wq hq; obtain ⟨⟨a0, a1⟩, _⟩ := HS.out wq hq; go_simp; try with_reducible rfl)
          simp only [Act.put, List.setIfInBounds_toArray, List.set_cons_zero, List.set_cons_succ]
          refine wpAnyH_take (i := 26) (oi := ?p26sy) (v := ?v26sy) ?o26sy (by kernel_rfl) (by kernel_rfl) (by kernel_rfl) ?q26sy ?y26sy hHeld ?r26sy
          case o26sy => simp only [List.getElem?_toArray, List.getElem?_cons_succ, List.getElem?_cons_zero]; rfl
          case q26sy => exact fun _ _ _ h => h
          case y26sy => (refine Or.inl ⟨rfl, ?_⟩; intro wq hq; obtain ⟨⟨a0, a1⟩, _⟩ := HS.out wq hq; go_simp; try with_reducible rfl)
          simp only [Act.put, List.setIfInBounds_toArray, List.set_cons_zero, List.set_cons_succ]
          refine wpAnyH_take (i := 27) (oi := ?p27sy) (v := ?v27sy) ?o27sy (by kernel_rfl) (by kernel_rfl) (by kernel_rfl) ?q27sy ?y27sy hHeld ?r27sy
          case o27sy => simp only [List.getElem?_toArray, List.getElem?_cons_succ, List.getElem?_cons_zero]; rfl
          case q27sy => exact fun _ _ _ h => h
          case y27sy => (refine Or.inl ⟨rfl, ?_⟩; intro wq hq; obtain ⟨⟨a0, a1⟩, _⟩ := HS.out wq hq; go_simp; try with_reducible rfl)
          simp only [Act.put, List.setIfInBounds_toArray, List.set_cons_zero, List.set_cons_succ]
          refine wpAnyH_take (i := 28) (oi := ?p28sy) (v := ?v28sy) ?o28sy (by kernel_rfl) (by kernel_rfl) (by kernel_rfl) ?q28sy ?y28sy hHeld ?r28sy
          case o28sy => simp only [List.getElem?_toArray, List.getElem?_cons_succ, List.getElem?_cons_zero]; rfl
          case q28sy => exact fun _ _ _ h => h
          case y28sy => (refine Or.inl ⟨rfl, ?_⟩; intro wq hq; obtain ⟨⟨a0, a1⟩, _⟩ := HS.out wq hq; go_simp; try with_reducible rfl)
          simp only [Act.put, List.setIfInBounds_toArray, List.set_cons_zero, List.set_cons_succ]
          refine wpAnyH_take (i := 29) (oi := ?p29sy) (v := ?v29sy) ?o29sy (by kernel_rfl) (by kernel_rfl) (by kernel_rfl) ?q29sy ?y29sy hHeld ?r29sy
          case o29sy => simp only [List.getElem?_toArray, List.getElem?_cons_succ, List.getElem?_cons_zero]; rfl
          case q29sy => exact fun _ _ _ h => h
          case y29sy => (refine Or.inl ⟨rfl, ?_⟩; intro wq hq; obtain ⟨⟨a0, a1⟩, _⟩ := HS.out wq hq; go_simp; try with_reducible rfl)
          simp only [Act.put, List.setIfInBounds_toArray, List.set_cons_zero, List.set_cons_succ]
          refine wpAnyH_take (i := 31) (oi := ?p31sy) (v := ?v31sy) ?o31sy (by kernel_rfl) (by kernel_rfl) (by kernel_rfl) ?q31sy ?y31sy hHeld ?r31sy
          case o31sy => simp only [List.getElem?_toArray, List.getElem?_cons_succ, List.getElem?_cons_zero]; rfl
          case q31sy => exact fun _ _ _ h => h
          case y31sy => (refine Or.inl ⟨rfl, ?_⟩; intro wq hq; obtain ⟨⟨a0, a1⟩, _⟩ := HS.out wq hq; go_simp; try with_reducible rfl)
          simp only [Act.put, List.setIfInBounds_toArray, List.set_cons_zero, List.set_cons_succ]
          refine wpAnyH_take (i := 32) (oi := ?p32sy) (v := ?v32sy) ?o32sy (by kernel_rfl) (by kernel_rfl) (by kernel_rfl) ?q32sy ?y32sy hHeld ?r32sy
          case o32sy => simp only [List.getElem?_toArray, List.getElem?_cons_succ, List.getElem?_cons_zero]; rfl
          case q32sy => exact fun _ _ _ h => h
          case y32sy => (refine Or.inl ⟨rfl, ?_⟩; intro wq hq; obtain ⟨⟨a0, a1⟩, _⟩ := HS.out wq hq; go_simp; try with_reducible rfl)
          simp only [Act.put, List.setIfInBounds_toArray, List.set_cons_zero, List.set_cons_succ]
          refine wpAnyH_ready (rs := [30]) (by kernel_rfl) (by simp) ?_
          refine AllReadyH.cons (o := ?p30sy) ?o30sy ?s30sy AllReadyH.nil
          case o30sy => simp only [List.getElem?_toArray, List.getElem?_cons_succ, List.getElem?_cons_zero]; rfl
          intro K hK
          go_simp
          refine (HM.out _ hHeld).ts.len.mono ?_
          rintro e wA ⟨rfl, rfl⟩
          rw [hl0]
          refine hK.out _ _ hHeld (fun hHeld => ?_)
          clear hK K
          refine wpAnyH_take (i := 33) (oi := ?p33sy) (v := ?v33sy) ?o33sy (by kernel_rfl) (by kernel_rfl) (by kernel_rfl) ?q33sy ?y33sy hHeld ?r33sy
          case o33sy => simp only [List.getElem?_toArray, List.getElem?_cons_succ, List.getElem?_cons_zero]; rfl
          case q33sy => exact fun _ _ _ h => h
          case y33sy => (refine Or.inl ⟨rfl, ?_⟩; intro wq hq; obtain ⟨⟨a0, a1⟩, _⟩ := HS.out wq hq; go_simp; try with_reducible rfl)
          simp only [Act.put, List.setIfInBounds_toArray, List.set_cons_zero, List.set_cons_succ]
          refine wpAnyH_take (i := 34) (oi := ?p34sy) (v := ?v34sy) ?o34sy (by kernel_rfl) (by kernel_rfl) (by kernel_rfl) ?q34sy ?y34sy hHeld ?r34sy
          case o34sy => simp only [List.getElem?_toArray, List.getElem?_cons_succ, List.getElem?_cons_zero]; rfl
          case q34sy => exact fun _ _ _ h => h
          case y34sy => (refine Or.inl ⟨rfl, ?_⟩; intro wq hq; obtain ⟨⟨a0, a1⟩, _⟩ := HS.out wq hq; go_simp; try with_reducible rfl)
          simp only [Act.put, List.setIfInBounds_toArray, List.set_cons_zero, List.set_cons_succ]
          refine wpAnyH_take (i := 35) (oi := ?p35sy) (v := ?v35sy) ?o35sy (by kernel_rfl) (by kernel_rfl) (by kernel_rfl) ?q35sy ?y35sy hHeld ?r35sy
          case o35sy => simp only [List.getElem?_toArray, List.getElem?_cons_succ, List.getElem?_cons_zero]; rfl
          case q35sy => exact fun _ _ _ h => h
          case y35sy => (refine Or.inl ⟨rfl, ?_⟩; intro wq hq; obtain ⟨⟨a0, a1⟩, _⟩ := HS.out wq hq; go_simp; try with_reducible rfl)
          simp only [Act.put, List.setIfInBounds_toArray, List.set_cons_zero, List.set_cons_succ]
          refine wpAnyH_take (i := 36) (oi := ?p36sy) (v := ?v36sy) ?o36sy (by kernel_rfl) (by kernel_rfl) (by kernel_rfl) ?q36sy ?y36sy hHeld ?r36sy
          case o36sy => simp only [List.getElem?_toArray, List.getElem?_cons_succ, List.getElem?_cons_zero]; rfl
          case q36sy => exact fun _ _ _ h => h
          case y36sy => (refine Or.inl ⟨rfl, ?_⟩; intro wq hq; obtain ⟨⟨a0, a1⟩, _⟩ := HS.out wq hq; go_simp; try with_reducible rfl)
          simp only [Act.put, List.setIfInBounds_toArray, List.set_cons_zero, List.set_cons_succ]
          refine wpAnyH_take (i := 38) (oi := ?p38sy) (v := ?v38sy) ?o38sy (by kernel_rfl) (by kernel_rfl) (by kernel_rfl) ?q38sy ?y38sy hHeld ?r38sy
          case o38sy => simp only [List.getElem?_toArray, List.getElem?_cons_succ, List.getElem?_cons_zero]; rfl
          case q38sy => exact fun _ _ _ h => h
          case y38sy => (refine Or.inl ⟨rfl, ?_⟩; intro wq hq; obtain ⟨⟨a0, a1⟩, _⟩ := HS.out wq hq; go_simp; try with_reducible rfl)
          simp only [Act.put, List.setIfInBounds_toArray, List.set_cons_zero, List.set_cons_succ]
          refine wpAnyH_ready (rs := [37]) (by kernel_rfl) (by simp) ?_
          refine AllReadyH.cons (o := ?p37sy) ?o37sy ?s37sy AllReadyH.nil
          case o37sy => simp only [List.getElem?_toArray, List.getElem?_cons_succ, List.getElem?_cons_zero]; rfl
          intro K hK
          go_simp
          refine (HM.out _ hHeld).ts.all.mono ?_
          rintro e wB ⟨aB, cB, rfl, atB, _, BB, _⟩
          have BB2 := bel_up hHeld BB (Nat.le_refl _)
          have HAB := Hid_of atB
          clear BB atB
          rw [hl0]
          refine hK.out _ _ BB2 (fun hHeld => ?_)
          clear hK K
          refine wpAnyH_ready (rs := [39]) (by kernel_rfl) (by simp) ?_
          refine AllReadyH.cons (o := ?p39sy) ?o39sy ?s39sy AllReadyH.nil
          case o39sy => simp only [List.getElem?_toArray, List.getElem?_cons_succ, List.getElem?_cons_zero]; rfl
          intro K hK
          go_simp
          have hsm := same_any aB cB ax cx P _ (by omega) HAB.out (HM.out _ hHeld).y.at'
          rw [hl0] at hsm
          refine hsm.mono ?_
          rintro e wC ⟨rfl, BC⟩
          have BC2 := bel_up hHeld BC (Nat.le_refl _)
          clear BC hsm
          refine hK.out _ _ BC2 (fun hHeld => ?_)
          clear hK K
          refine wpAnyH_take (i := 40) (oi := ?p40sy) (v := ?v40sy) ?o40sy (by kernel_rfl) (by kernel_rfl) (by kernel_rfl) ?q40sy ?y40sy hHeld ?r40sy
          case o40sy => simp only [List.getElem?_toArray, List.getElem?_cons_succ, List.getElem?_cons_zero]; rfl
          case q40sy => exact fun _ _ _ h => h
          case y40sy => (refine Or.inl ⟨rfl, ?_⟩; intro wq hq; obtain ⟨⟨a0, a1⟩, _⟩ := HS.out wq hq; go_simp; try with_reducible rfl)
          simp only [Act.put, List.setIfInBounds_toArray, List.set_cons_zero, List.set_cons_succ]
          refine wpAnyH_take (i := 41) (oi := ?p41sy) (v := ?v41sy) ?o41sy (by kernel_rfl) (by kernel_rfl) (by kernel_rfl) ?q41sy ?y41sy hHeld ?r41sy
          case o41sy => simp only [List.getElem?_toArray, List.getElem?_cons_succ, List.getElem?_cons_zero]; rfl
          case q41sy => exact fun _ _ _ h => h
          case y41sy => (refine Or.inl ⟨rfl, ?_⟩; intro wq hq; obtain ⟨⟨a0, a1⟩, _⟩ := HS.out wq hq; go_simp; try with_reducible rfl)
          simp only [Act.put, List.setIfInBounds_toArray, List.set_cons_zero, List.set_cons_succ]
          refine wpAnyH_done (by kernel_rfl) ?_ _
          go_wp2
          go_roundw
          case rel => exact ⟨k + 1, P, v, ax, cx, by omega, by rw [HPZ.out]; rfl, by go_num, (HM.out _ hHeld)⟩
          case measure => simp [intOf]; omega
      · have hkn : k = l.length := by omega
        subst hkn
        have HB := Hid_of HX.out.ts.bel
        clear HX HD
        go_wp2_with fail
        refine (awake_any _).mono ?_
        rintro e w3 ⟨rfl, B3⟩
        have HBF := Hid_of (bel_up HB.out B3 (Nat.le_refl _))
        clear B3
        go_wp2
        go_ret
        exact ⟨rfl, HBF.out⟩
end Go.Proofs.Ytcjibgpbfcedlaa
