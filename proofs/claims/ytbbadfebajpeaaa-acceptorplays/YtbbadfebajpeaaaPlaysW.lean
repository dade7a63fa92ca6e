/-
  The law AcceptorPlays, walked.
-/
import Derived.Test.YtbbadfebajpeaaaPD
import Derived.Test.YtbbadfebajpeaaaPS
namespace Go.Proofs.Ytbbadfebajpeaaa
open Go.RowKit
set_option linter.unusedVariables false
open M (E V)

set_option maxRecDepth 100000 in
set_option maxHeartbeats 8000000 in
theorem plays_walk (al : Option Addr) (cap : Nat) (l : List D) (w : World) (hm : l.length ≤ maxLen) (hat : AtL dl w al l) (hok : ∀ d ∈ l, d.v.v.size ≤ maxLen) :
    Calls Try.prog 3 #[.slice al l.length cap] w fun e w' => e = .returned (.bool true) ∧ Below w.heap.size w w' := by
  have hfew := few_any al cap l w hm hat hok
  have HAT := Hid_of hat
  clear hat hok hm
  go_enter Try.func3, Try.ntmps3
  go_wp2_with fail
  refine hfew.mono ?_
  rintro e w0 ⟨b0, rfl, hb0, rfl⟩
  clear hfew
  cases b0 with
  | false =>
    go_wp2_with fail
    refine (awake_any _).mono ?_
    rintro e w8 ⟨rfl, b8⟩
    have HB8 := Hid_of b8
    clear b8
    go_wp2
    go_ret
    exact ⟨rfl, HB8.out⟩
  | true =>
    obtain ⟨hl60, hsz⟩ := hb0 rfl
    have hnw := newA_any w0 w0 (Below.refl _ _)
    clear hb0 hsz
    go_wp2_with fail
    refine hnw.mono ?_
    rintro e w1 ⟨b, F1, rfl, S1, _, hF1⟩
    have hb1 := bel1 w1 (.cells #[.int .i64 0, .int .i64 0, .int .i64 0, .slice none 0 0] 31)
    have hr1 := heap_alloc_last w1 (.cells #[.int .i64 0, .int .i64 0, .int .i64 0, .slice none 0 0] 31)
    obtain ⟨W1, HW1⟩ : ∃ W1, Hid (w1.alloc (.cells #[.int .i64 0, .int .i64 0, .int .i64 0, .slice none 0 0] 31) = W1) := ⟨_, Hid_of rfl⟩
    rw [HW1.out] at hb1 hr1
    obtain ⟨B, HBw⟩ : ∃ B, Hid (w1.heap.size = B) := ⟨_, Hid_of rfl⟩
    have HP1 : Hid (PS w0 W1 F1 b M.S0 w1.heap.size M.S0 none 0) := ⟨S1.keep hb1, ⟨XL.emp _, fun k hk => (by obtain ⟨_, _, h⟩ := hk; cases h), fun k hk => (by obtain ⟨_, _, h⟩ := hk; cases h)⟩, ⟨hr1, fun e => by have := (S1.mine _ e).2; omega⟩, S1.bel.size, by simp [M.S0]⟩
    rw [HBw.out] at HP1
    clear hnw S1 hF1 hb1 hr1
    go_upto_region 4 with fail
    rw [HW1.out]
    rw [HBw.out]
    clear HW1 HBw
    go_wp2
    go_loopw [5] (fun i wr => ∃ (k : Nat) (F : Nat → Prop) (s : M.S) (ad : Option Addr) (c : Nat), k ≤ l.length ∧ i = .int .i64 k ∧ PS w0 wr F b s B s ad c) (fun i _ => l.length - (intOf i).toNat)
    case atStart => exact ⟨0, F1, _, none, 0, Nat.zero_le _, rfl, HP1.out⟩
    case round =>
      obtain ⟨k, F, s, ad, c, hk, rfl, hP⟩ := hrel
      by_cases hlt : k < l.length
      · obtain ⟨g0, off, rfl, c0, c1, c2, c3, c4⟩ := (HAT.out.keep hP.pa.bel).getD k hlt
        obtain ⟨W1, HW1⟩ : ∃ W1, Hid (wr.alloc (.cells #[.int .i64 l[k].v.s, .int .i64 l[k].v.b.i, .int .i64 l[k].v.b.t, .string l[k].v.v] 33) = W1) := ⟨_, Hid_of rfl⟩
        have hb1 : Below wr.heap.size wr W1 := by rw [← HW1.out]; exact bel1 wr _
        have hx1 : W1.heap[wr.heap.size]? = some (.cells #[.int .i64 l[k].v.s, .int .i64 l[k].v.b.i, .int .i64 l[k].v.b.t, .string l[k].v.v] 33 (0, 0)) := by rw [← HW1.out]; exact heap_alloc_last wr _
        have hnf : ¬ F wr.heap.size := fun e => by have := (hP.pa.mine _ e).2; omega
        have hnB : wr.heap.size ≠ B := by have := (Array.getElem?_eq_some_iff.1 hP.bx.row).1; omega
        have HP := Hid_of (hP.keep hb1)
        have HOK := Hid_of hP.pa.ok
        have hdk : W1.cell? ⟨g0, off + k * 5, none⟩ = some (.int .i64 l[k].k) := (World.cell?_of_block (w := wr) (a := ⟨g0, off + k * 5, none⟩) (hb1.block g0 (World.block_lt_of_cell? wr _ c0))).trans c0
        generalize l[k].v = x at *
        generalize l[k].k = dk at *
        obtain ⟨⟨y0, y1, y2, y3⟩, _⟩ := row4 hx1
        obtain ⟨⟨z0, z1, z2, z3⟩, _⟩ := row4 HP.out.bx.row
        obtain ⟨bx, hbx⟩ : ∃ bx, wr.heap.size = bx := ⟨_, rfl⟩
        rw [hbx] at hx1 hnf hnB y0 y1 y2 y3
        have HX := Hid_of hx1
        have HNF := Hid_of hnf
        have HNB := Hid_of hnB
        have HBX := Hid_of hbx
        clear hP hb1 hx1 hnf hnB hbx
        go_upto_region 9 with fail
        rw [HW1.out]
        rw [HBX.out]
        clear HW1 HBX c0 c1 c2 c3 c4
        by_cases hk0 : dk = 0
        · subst hk0
          have hc := HP.out.rpromise x.b x.s
          go_wp2_with fail
          refine hc.mono ?_
          rintro e w2 ⟨a2', c2', rfl, Xd, Xv, hb2⟩
          have HL2 : Hid ((M.prs s x.b x.s).l.length ≤ 1024) := Hid_of (by rw [prs_l]; exact HP.out.ln)
          clear hc
          obtain ⟨d2, hd2⟩ : ∃ d2, M.prs s x.b x.s = d2 := ⟨_, rfl⟩
          obtain ⟨vl2, hvl2⟩ : ∃ vl2, M.prl s x.b x.s = vl2 := ⟨_, rfl⟩
          obtain ⟨pb, hpb⟩ : ∃ pb, M.prb s x.b x.s = pb := ⟨_, rfl⟩
          have HD2 := Hid_of hd2
          have HVL := Hid_of hvl2
          have HPB := Hid_of hpb
          have HLV : Hid (vl2.length ≤ 1000000) := Hid_of (by
            rw [← hvl2]
            have h1 := HP.out.ln
            have h2 := M.vts_le s.l x.s
            unfold M.prl
            split
            · omega
            · simp)
          rw [hd2] at Xd HL2
          rw [hvl2] at Xv
          rw [hd2, hvl2, hpb]
          clear hd2 hvl2 hpb
          have P2 := HP.out.keep hb2
          have hb3 := bel1 w2 (.cells #[.int .i64 d2.p.i, .int .i64 d2.p.t, .int .i64 d2.base, .slice ad d2.l.length c] 31)
          have hr3 := heap_alloc_last w2 (.cells #[.int .i64 d2.p.i, .int .i64 d2.p.t, .int .i64 d2.base, .slice ad d2.l.length c] 31)
          obtain ⟨W3, HW3⟩ : ∃ W3, Hid (w2.alloc (.cells #[.int .i64 d2.p.i, .int .i64 d2.p.t, .int .i64 d2.base, .slice ad d2.l.length c] 31) = W3) := ⟨_, Hid_of rfl⟩
          rw [HW3.out] at hb3 hr3
          have P3 := P2.keep hb3
          have XD3 := Xd.up hb3
          have P4 := P3.doc XD3 HL2.out
          have hbx2 := bel_row (bel_row HX.out hb2) hb3
          have X4 := (put4_oth HNB.out (.int .i64 d2.p.i) (.int .i64 d2.p.t) (.int .i64 d2.base) (.slice ad d2.l.length c)).trans hbx2
          obtain ⟨⟨t0, t1, t2, t3⟩, _⟩ := row4 hr3
          obtain ⟨⟨r0, r1, r2, r3⟩, rf⟩ := row4 P3.bx.row
          have rf0 := rf 0
          have rf1 := rf 1
          have rf2 := rf 2
          have rf3 := rf 3
          obtain ⟨bY, hbY⟩ : ∃ bY, w2.heap.size = bY := ⟨_, rfl⟩
          rw [hbY] at t0 t1 t2 t3
          have hWp : (((W3.setCell ⟨B, 0, none⟩ (.int .i64 d2.p.i)).setCell ⟨B, 1, none⟩ (.int .i64 d2.p.t)).setCell ⟨B, 2, none⟩ (.int .i64 d2.base)).setCell ⟨B, 3, none⟩ (.slice ad d2.l.length c) = put4 W3 B (.int .i64 d2.p.i) (.int .i64 d2.p.t) (.int .i64 d2.base) (.slice ad d2.l.length c) := rfl
          have Xv4 := (Xv.up hb3).at4 (.int .i64 d2.p.i) (.int .i64 d2.p.t) (.int .i64 d2.base) (.slice ad d2.l.length c)
          have hp := P4.pa.promise x.b x.s
          rw [HD2.out, HVL.out, HPB.out] at hp
          have HP4 := Hid_of P4
          have HX4 := Hid_of X4
          have HXv4 := Hid_of Xv4
          obtain ⟨W4, HW4⟩ : ∃ W4, Hid (put4 W3 B (.int .i64 d2.p.i) (.int .i64 d2.p.t) (.int .i64 d2.base) (.slice ad d2.l.length c) = W4) := ⟨_, Hid_of rfl⟩
          rw [HW4.out] at hp HP4 HX4 HXv4 hWp
          have HWP := Hid_of hWp
          have HBY := Hid_of hbY
          obtain ⟨⟨j0, j1, j2, j3⟩, _⟩ := row4 HX4.out
          clear P2 hb3 hr3 P3 XD3 P4 hbx2 X4 rf Xv4 Xd Xv hb2 hWp hbY HW4
          go_upto_region 12 with fail
          rw [HW3.out]
          try rw [HBY.out]
          clear HW3
          go_upto_region 13 with fail
          rw [HWP.out]
          clear HWP t0 t1 t2 t3 r0 r1 r2 r3 rf0 rf1 rf2 rf3
          go_wp2_with fail
          refine hp.mono ?_
          rintro e w5 ⟨a5, c5', rfl, hx5, _, S5, Q5⟩
          have P5 := HP4.out.prog Q5 S5
          have X5 := ((BX.mk HX4.out HNF.out).step Q5).row
          have Xv5 := HXv4.out.step (fr_both Q5)
          have hsm := same_any a5 c5' a2' c2' vl2 w5 HLV.out hx5.at' Xv5.xl.at'
          have HP5 := Hid_of P5
          have HX5 := Hid_of X5
          clear hp hx5 S5 Q5 P5 X5 Xv5 HP4 HX4 HXv4 j0 j1 j2 j3
          go_wp2_with fail
          refine hsm.mono ?_
          rintro e wt ⟨rfl, hb6⟩
          have PT := HP5.out.keep hb6
          have XT := bel_row HX5.out hb6
          clear hb6 hsm HP5 HX5
          obtain ⟨F5, hF5⟩ : ∃ F5, F = F5 := ⟨_, rfl⟩
          obtain ⟨ad5, hd5⟩ : ∃ ad5, ad = ad5 := ⟨_, rfl⟩
          obtain ⟨c5, hc5⟩ : ∃ c5, c = c5 := ⟨_, rfl⟩
          obtain ⟨a2, ha2⟩ : ∃ a2, d2 = a2 := ⟨_, rfl⟩
          rw [hF5, hd5, hc5, ha2] at PT
          clear hF5 hd5 hc5 ha2
          cases pb with
          | true =>
            have HPT := Hid_of PT
            have HXT := Hid_of XT
            have HPM : Hid (∀ W, Below wt.heap.size wt W → Calls Try.prog 17 #[.pointer (some ⟨b, 0, none⟩)] W fun e w' => e = .returned (bV a2.p) ∧ Below W.heap.size W w') := fun W hW => (HPT.out.keep hW).pa.promised
            have HBS : Hid (∀ W, Below wt.heap.size wt W → Calls Try.prog 18 #[.pointer (some ⟨b, 0, none⟩)] W fun e w' => e = .returned (.int .i64 a2.base) ∧ w' = W) := fun W hW => (HPT.out.keep hW).pa.base
            have HVT := Hid_of (fun W (hW : Below wt.heap.size wt W) => (HPT.out.keep hW).pa.votes x.s)
            have HRV := Hid_of (fun W (hW : Below wt.heap.size wt W) => rvotes_any a2 ad5 c5 x.s W (HPT.out.keep hW).xb.xl HPT.out.ln)
            have HLE : Hid ((M.vts a2.l x.s).length ≤ 1000000) := Hid_of (by have := M.vts_le a2.l x.s; have := HPT.out.ln; omega)
            have HS : Hid (∀ w', Below wt.heap.size wt w' → (w'.cell? ⟨B, 0, none⟩ = some (.int .i64 a2.p.i) ∧ w'.cell? ⟨B, 1, none⟩ = some (.int .i64 a2.p.t) ∧ w'.cell? ⟨B, 2, none⟩ = some (.int .i64 a2.base) ∧ w'.cell? ⟨B, 3, none⟩ = some (.slice ad5 a2.l.length c5)) ∧ w'.cell? ⟨bx, 0, none⟩ = some (.int .i64 x.s)) := fun w' hb => ⟨(row4 (bel_row HPT.out.bx.row hb)).1, (row4 (bel_row HXT.out hb)).1.1⟩
            have hne := ne28 a2.p.i a2.p.t
            clear PT XT
            go_wp2_with fail
            refine wp_region_held_drew (S := fun wq => Below (wt).heap.size (wt) wq) (by kernel_rfl) (Below.drew (Below.refl _ _)) (fun hHeld => ?_)
            refine wpAnyH_take (i := 0) (oi := ?p0at) (v := ?v0at) ?o0at (by kernel_rfl) (by kernel_rfl) (by kernel_rfl) ?q0at ?y0at hHeld ?r0at
            case o0at => simp only [List.getElem?_toArray, List.getElem?_cons_zero]; rfl
            case q0at => exact fun _ _ _ h => h
            case y0at => (refine Or.inl ⟨rfl, ?_⟩; intro wq hq; obtain ⟨⟨z0, z1, z2, z3⟩, y0⟩ := HS.out wq hq; go_simp; try with_reducible rfl)
            simp only [Act.put, List.setIfInBounds_toArray, List.set_cons_zero, List.set_cons_succ]
            refine wpAnyH_take (i := 1) (oi := ?p1at) (v := ?v1at) ?o1at (by kernel_rfl) (by kernel_rfl) (by kernel_rfl) ?q1at ?y1at hHeld ?r1at
            case o1at => simp only [List.getElem?_toArray, List.getElem?_cons_succ, List.getElem?_cons_zero]; rfl
            case q1at => exact fun _ _ _ h => h
            case y1at => (refine Or.inl ⟨rfl, ?_⟩; intro wq hq; obtain ⟨⟨z0, z1, z2, z3⟩, y0⟩ := HS.out wq hq; go_simp; try with_reducible rfl)
            simp only [Act.put, List.setIfInBounds_toArray, List.set_cons_zero, List.set_cons_succ]
            refine wpAnyH_take (i := 2) (oi := ?p2at) (v := ?v2at) ?o2at (by kernel_rfl) (by kernel_rfl) (by kernel_rfl) ?q2at ?y2at hHeld ?r2at
            case o2at => simp only [List.getElem?_toArray, List.getElem?_cons_succ, List.getElem?_cons_zero]; rfl
            case q2at => exact fun _ _ _ h => h
            case y2at => (refine Or.inl ⟨rfl, ?_⟩; intro wq hq; obtain ⟨⟨z0, z1, z2, z3⟩, y0⟩ := HS.out wq hq; go_simp; try with_reducible rfl)
            simp only [Act.put, List.setIfInBounds_toArray, List.set_cons_zero, List.set_cons_succ]
            refine wpAnyH_take (i := 3) (oi := ?p3at) (v := ?v3at) ?o3at (by kernel_rfl) (by kernel_rfl) (by kernel_rfl) ?q3at ?y3at hHeld ?r3at
            case o3at => simp only [List.getElem?_toArray, List.getElem?_cons_succ, List.getElem?_cons_zero]; rfl
            case q3at => exact fun _ _ _ h => h
            case y3at => (refine Or.inl ⟨rfl, ?_⟩; intro wq hq; obtain ⟨⟨z0, z1, z2, z3⟩, y0⟩ := HS.out wq hq; go_simp; try with_reducible rfl)
            simp only [Act.put, List.setIfInBounds_toArray, List.set_cons_zero, List.set_cons_succ]
            refine wpAnyH_take (i := 5) (oi := ?p5at) (v := ?v5at) ?o5at (by kernel_rfl) (by kernel_rfl) (by kernel_rfl) ?q5at ?y5at hHeld ?r5at
            case o5at => simp only [List.getElem?_toArray, List.getElem?_cons_succ, List.getElem?_cons_zero]; rfl
            case q5at => exact fun _ _ _ h => h
            case y5at => (refine Or.inl ⟨rfl, ?_⟩; intro wq hq; obtain ⟨⟨z0, z1, z2, z3⟩, y0⟩ := HS.out wq hq; go_simp; try with_reducible rfl)
            simp only [Act.put, List.setIfInBounds_toArray, List.set_cons_zero, List.set_cons_succ]
            refine wpAnyH_take (i := 6) (oi := ?p6at) (v := ?v6at) ?o6at (by kernel_rfl) (by kernel_rfl) (by kernel_rfl) ?q6at ?y6at hHeld ?r6at
            case o6at => simp only [List.getElem?_toArray, List.getElem?_cons_succ, List.getElem?_cons_zero]; rfl
            case q6at => exact fun _ _ _ h => h
            case y6at => (refine Or.inl ⟨rfl, ?_⟩; intro wq hq; obtain ⟨⟨z0, z1, z2, z3⟩, y0⟩ := HS.out wq hq; go_simp; try with_reducible rfl)
            simp only [Act.put, List.setIfInBounds_toArray, List.set_cons_zero, List.set_cons_succ]
            refine wpAnyH_ready (rs := [4]) (by kernel_rfl) (by simp) ?_
            refine AllReadyH.cons (o := ?p4at) ?o4at ?s4at AllReadyH.nil
            case o4at => simp only [List.getElem?_toArray, List.getElem?_cons_succ, List.getElem?_cons_zero]; rfl
            intro K hK
            go_simp
            refine (HPM.out _ hHeld).mono ?_
            rintro e v4 ⟨rfl, hb4⟩
            have B4 : Below wt.heap.size wt v4 := hHeld.trans (hb4.mono hHeld.size)
            refine hK.out _ _ B4 (fun hHeld => ?_)
            clear hK K
            refine wpAnyH_take (i := 7) (oi := ?p7at) (v := ?v7at) ?o7at (by kernel_rfl) (by kernel_rfl) (by kernel_rfl) ?q7at ?y7at hHeld ?r7at
            case o7at => simp only [List.getElem?_toArray, List.getElem?_cons_succ, List.getElem?_cons_zero]; rfl
            case q7at => exact fun _ _ _ h => h
            case y7at => (refine Or.inl ⟨rfl, ?_⟩; intro wq hq; obtain ⟨⟨z0, z1, z2, z3⟩, y0⟩ := HS.out wq hq; go_simp; try with_reducible rfl)
            simp only [Act.put, List.setIfInBounds_toArray, List.set_cons_zero, List.set_cons_succ]
            refine wpAnyH_take (i := 8) (oi := ?p8at) (v := ?v8at) ?o8at (by kernel_rfl) (by kernel_rfl) (by kernel_rfl) ?q8at ?y8at hHeld ?r8at
            case o8at => simp only [List.getElem?_toArray, List.getElem?_cons_succ, List.getElem?_cons_zero]; rfl
            case q8at => exact fun _ _ _ h => h
            case y8at => (refine Or.inl ⟨rfl, ?_⟩; intro wq hq; obtain ⟨⟨z0, z1, z2, z3⟩, y0⟩ := HS.out wq hq; go_simp; try with_reducible rfl)
            simp only [Act.put, List.setIfInBounds_toArray, List.set_cons_zero, List.set_cons_succ]
            refine wpAnyH_take (i := 9) (oi := ?p9at) (v := ?v9at) ?o9at (by kernel_rfl) (by kernel_rfl) (by kernel_rfl) ?q9at ?y9at hHeld ?r9at
            case o9at => simp only [List.getElem?_toArray, List.getElem?_cons_succ, List.getElem?_cons_zero]; rfl
            case q9at => exact fun _ _ _ h => h
            case y9at => (refine Or.inl ⟨rfl, ?_⟩; intro wq hq; obtain ⟨⟨z0, z1, z2, z3⟩, y0⟩ := HS.out wq hq; go_simp; try with_reducible rfl)
            simp only [Act.put, List.setIfInBounds_toArray, List.set_cons_zero, List.set_cons_succ]
            refine wpAnyH_take (i := 10) (oi := ?p10at) (v := ?v10at) ?o10at (by kernel_rfl) (by kernel_rfl) (by kernel_rfl) ?q10at ?y10at hHeld ?r10at
            case o10at => simp only [List.getElem?_toArray, List.getElem?_cons_succ, List.getElem?_cons_zero]; rfl
            case q10at => exact fun _ _ _ h => h
            case y10at => (refine Or.inl ⟨rfl, ?_⟩; intro wq hq; obtain ⟨⟨z0, z1, z2, z3⟩, y0⟩ := HS.out wq hq; go_simp; try with_reducible rfl)
            simp only [Act.put, List.setIfInBounds_toArray, List.set_cons_zero, List.set_cons_succ]
            refine wpAnyH_take (i := 12) (oi := ?p12at) (v := ?v12at) ?o12at (by kernel_rfl) (by kernel_rfl) (by kernel_rfl) ?q12at ?y12at hHeld ?r12at
            case o12at => simp only [List.getElem?_toArray, List.getElem?_cons_succ, List.getElem?_cons_zero]; rfl
            case q12at => exact fun _ _ _ h => h
            case y12at => (refine Or.inl ⟨rfl, ?_⟩; intro wq hq; obtain ⟨⟨z0, z1, z2, z3⟩, y0⟩ := HS.out wq hq; go_simp; try with_reducible rfl)
            simp only [Act.put, List.setIfInBounds_toArray, List.set_cons_zero, List.set_cons_succ]
            refine wpAnyH_take (i := 13) (oi := ?p13at) (v := ?v13at) ?o13at (by kernel_rfl) (by kernel_rfl) (by kernel_rfl) ?q13at ?y13at hHeld ?r13at
            case o13at => simp only [List.getElem?_toArray, List.getElem?_cons_succ, List.getElem?_cons_zero]; rfl
            case q13at => exact fun _ _ _ h => h
            case y13at => (refine Or.inl ⟨rfl, ?_⟩; intro wq hq; obtain ⟨⟨z0, z1, z2, z3⟩, y0⟩ := HS.out wq hq; go_simp; try with_reducible rfl)
            simp only [Act.put, List.setIfInBounds_toArray, List.set_cons_zero, List.set_cons_succ]
            refine wpAnyH_ready (rs := [11]) (by kernel_rfl) (by simp) ?_
            refine AllReadyH.cons (o := ?p11at) ?o11at ?s11at AllReadyH.nil
            case o11at => simp only [List.getElem?_toArray, List.getElem?_cons_succ, List.getElem?_cons_zero]; rfl
            intro K hK
            go_simp
            refine (HBS.out _ hHeld).mono ?_
            rintro e v11 ⟨rfl, rfl⟩
            refine hK.out _ _ hHeld (fun hHeld => ?_)
            clear hK K
            refine wpAnyH_take (i := 14) (oi := ?p14at) (v := ?v14at) ?o14at (by kernel_rfl) (by kernel_rfl) (by kernel_rfl) ?q14at ?y14at hHeld ?r14at
            case o14at => simp only [List.getElem?_toArray, List.getElem?_cons_succ, List.getElem?_cons_zero]; rfl
            case q14at => exact fun _ _ _ h => h
            case y14at => (refine Or.inl ⟨rfl, ?_⟩; intro wq hq; obtain ⟨⟨z0, z1, z2, z3⟩, y0⟩ := HS.out wq hq; go_simp; try with_reducible rfl)
            simp only [Act.put, List.setIfInBounds_toArray, List.set_cons_zero, List.set_cons_succ]
            refine wpAnyH_take (i := 15) (oi := ?p15at) (v := ?v15at) ?o15at (by kernel_rfl) (by kernel_rfl) (by kernel_rfl) ?q15at ?y15at hHeld ?r15at
            case o15at => simp only [List.getElem?_toArray, List.getElem?_cons_succ, List.getElem?_cons_zero]; rfl
            case q15at => exact fun _ _ _ h => h
            case y15at => (refine Or.inl ⟨rfl, ?_⟩; intro wq hq; obtain ⟨⟨z0, z1, z2, z3⟩, y0⟩ := HS.out wq hq; go_simp; try with_reducible rfl)
            simp only [Act.put, List.setIfInBounds_toArray, List.set_cons_zero, List.set_cons_succ]
            refine wpAnyH_take (i := 16) (oi := ?p16at) (v := ?v16at) ?o16at (by kernel_rfl) (by kernel_rfl) (by kernel_rfl) ?q16at ?y16at hHeld ?r16at
            case o16at => simp only [List.getElem?_toArray, List.getElem?_cons_succ, List.getElem?_cons_zero]; rfl
            case q16at => exact fun _ _ _ h => h
            case y16at => (refine Or.inl ⟨rfl, ?_⟩; intro wq hq; obtain ⟨⟨z0, z1, z2, z3⟩, y0⟩ := HS.out wq hq; go_simp; try with_reducible rfl)
            simp only [Act.put, List.setIfInBounds_toArray, List.set_cons_zero, List.set_cons_succ]
            refine wpAnyH_take (i := 17) (oi := ?p17at) (v := ?v17at) ?o17at (by kernel_rfl) (by kernel_rfl) (by kernel_rfl) ?q17at ?y17at hHeld ?r17at
            case o17at => simp only [List.getElem?_toArray, List.getElem?_cons_succ, List.getElem?_cons_zero]; rfl
            case q17at => exact fun _ _ _ h => h
            case y17at => (refine Or.inl ⟨rfl, ?_⟩; intro wq hq; obtain ⟨⟨z0, z1, z2, z3⟩, y0⟩ := HS.out wq hq; go_simp; try with_reducible rfl)
            simp only [Act.put, List.setIfInBounds_toArray, List.set_cons_zero, List.set_cons_succ]
            refine wpAnyH_take (i := 18) (oi := ?p18at) (v := ?v18at) ?o18at (by kernel_rfl) (by kernel_rfl) (by kernel_rfl) ?q18at ?y18at hHeld ?r18at
            case o18at => simp only [List.getElem?_toArray, List.getElem?_cons_succ, List.getElem?_cons_zero]; rfl
            case q18at => exact fun _ _ _ h => h
            case y18at => (refine Or.inl ⟨rfl, ?_⟩; intro wq hq; obtain ⟨⟨z0, z1, z2, z3⟩, y0⟩ := HS.out wq hq; go_simp; try with_reducible rfl)
            simp only [Act.put, List.setIfInBounds_toArray, List.set_cons_zero, List.set_cons_succ]
            refine wpAnyH_take (i := 19) (oi := ?p19at) (v := ?v19at) ?o19at (by kernel_rfl) (by kernel_rfl) (by kernel_rfl) ?q19at ?y19at hHeld ?r19at
            case o19at => simp only [List.getElem?_toArray, List.getElem?_cons_succ, List.getElem?_cons_zero]; rfl
            case q19at => exact fun _ _ _ h => h
            case y19at => (refine Or.inl ⟨rfl, ?_⟩; intro wq hq; obtain ⟨⟨z0, z1, z2, z3⟩, y0⟩ := HS.out wq hq; go_simp; try with_reducible rfl)
            simp only [Act.put, List.setIfInBounds_toArray, List.set_cons_zero, List.set_cons_succ]
            refine wpAnyH_take (i := 21) (oi := ?p21at) (v := ?v21at) ?o21at (by kernel_rfl) (by kernel_rfl) (by kernel_rfl) ?q21at ?y21at hHeld ?r21at
            case o21at => simp only [List.getElem?_toArray, List.getElem?_cons_succ, List.getElem?_cons_zero]; rfl
            case q21at => exact fun _ _ _ h => h
            case y21at => (refine Or.inl ⟨rfl, ?_⟩; intro wq hq; obtain ⟨⟨z0, z1, z2, z3⟩, y0⟩ := HS.out wq hq; go_simp; try with_reducible rfl)
            simp only [Act.put, List.setIfInBounds_toArray, List.set_cons_zero, List.set_cons_succ]
            refine wpAnyH_take (i := 22) (oi := ?p22at) (v := ?v22at) ?o22at (by kernel_rfl) (by kernel_rfl) (by kernel_rfl) ?q22at ?y22at hHeld ?r22at
            case o22at => simp only [List.getElem?_toArray, List.getElem?_cons_succ, List.getElem?_cons_zero]; rfl
            case q22at => exact fun _ _ _ h => h
            case y22at => (refine Or.inl ⟨rfl, ?_⟩; intro wq hq; obtain ⟨⟨z0, z1, z2, z3⟩, y0⟩ := HS.out wq hq; go_simp; try with_reducible rfl)
            simp only [Act.put, List.setIfInBounds_toArray, List.set_cons_zero, List.set_cons_succ]
            refine wpAnyH_take (i := 23) (oi := ?p23at) (v := ?v23at) ?o23at (by kernel_rfl) (by kernel_rfl) (by kernel_rfl) ?q23at ?y23at hHeld ?r23at
            case o23at => simp only [List.getElem?_toArray, List.getElem?_cons_succ, List.getElem?_cons_zero]; rfl
            case q23at => exact fun _ _ _ h => h
            case y23at => (refine Or.inl ⟨rfl, ?_⟩; intro wq hq; obtain ⟨⟨z0, z1, z2, z3⟩, y0⟩ := HS.out wq hq; go_simp; try with_reducible rfl)
            simp only [Act.put, List.setIfInBounds_toArray, List.set_cons_zero, List.set_cons_succ]
            refine wpAnyH_ready (rs := [20]) (by kernel_rfl) (by simp) ?_
            refine AllReadyH.cons (o := ?p20at) ?o20at ?s20at AllReadyH.nil
            case o20at => simp only [List.getElem?_toArray, List.getElem?_cons_succ, List.getElem?_cons_zero]; rfl
            intro K hK
            go_simp
            refine (HVT.out _ hHeld).mono ?_
            rintro e v20 ⟨a20, c20, rfl, hx20, _, hb20⟩
            have B20 : Below wt.heap.size wt v20 := hHeld.trans (hb20.mono hHeld.size)
            refine hK.out _ _ B20 (fun hHeld => ?_)
            clear hK K
            refine wpAnyH_ready (rs := [24]) (by kernel_rfl) (by simp) ?_
            refine AllReadyH.cons (o := ?p24at) ?o24at ?s24at AllReadyH.nil
            case o24at => simp only [List.getElem?_toArray, List.getElem?_cons_succ, List.getElem?_cons_zero]; rfl
            intro K hK
            go_simp
            refine (HRV.out _ hHeld).mono ?_
            rintro e v24 hrv
            obtain ⟨a24, c24, rfl, hx24, _, hb24⟩ := hrv.mono
            have B24 : Below wt.heap.size wt v24 := hHeld.trans (hb24.mono hHeld.size)
            refine hK.out _ _ B24 (fun hHeld => ?_)
            clear hK K
            refine wpAnyH_ready (rs := [25]) (by kernel_rfl) (by simp) ?_
            refine AllReadyH.cons (o := ?p25at) ?o25at ?s25at AllReadyH.nil
            case o25at => simp only [List.getElem?_toArray, List.getElem?_cons_succ, List.getElem?_cons_zero]; rfl
            intro K hK
            go_simp
            refine (same_any a20 c20 a24 c24 _ _ (HLE.out) (hx20.at'.keep hb24) hx24.at').mono ?_
            rintro e v25 ⟨rfl, hb25⟩
            have B25 : Below wt.heap.size wt v25 := hHeld.trans (hb25.mono hHeld.size)
            refine hK.out _ _ B25 (fun hHeld => ?_)
            clear hK K
            refine wpAnyH_take (i := 26) (oi := ?p26at) (v := ?v26at) ?o26at (by kernel_rfl) (by kernel_rfl) (by kernel_rfl) ?q26at ?y26at hHeld ?r26at
            case o26at => simp only [List.getElem?_toArray, List.getElem?_cons_succ, List.getElem?_cons_zero]; rfl
            case q26at => exact fun _ _ _ h => h
            case y26at => (refine Or.inl ⟨rfl, ?_⟩; intro wq hq; obtain ⟨⟨z0, z1, z2, z3⟩, y0⟩ := HS.out wq hq; go_simp; try with_reducible rfl)
            simp only [Act.put, List.setIfInBounds_toArray, List.set_cons_zero, List.set_cons_succ]
            refine wpAnyH_take (i := 27) (oi := ?p27at) (v := ?v27at) ?o27at (by kernel_rfl) (by kernel_rfl) (by kernel_rfl) ?q27at ?y27at hHeld ?r27at
            case o27at => simp only [List.getElem?_toArray, List.getElem?_cons_succ, List.getElem?_cons_zero]; rfl
            case q27at => exact fun _ _ _ h => h
            case y27at => (refine Or.inl ⟨rfl, ?_⟩; intro wq hq; obtain ⟨⟨z0, z1, z2, z3⟩, y0⟩ := HS.out wq hq; go_simp; try with_reducible rfl)
            simp only [Act.put, List.setIfInBounds_toArray, List.set_cons_zero, List.set_cons_succ]
            refine wpAnyH_done (by kernel_rfl) ?_ _
            have HPF := Hid_of (HPT.out.keep hHeld)
            clear hHeld HPM HBS HVT HRV HS HPT
            go_wp2
            go_roundw
            case rel => exact ⟨k + 1, F5, a2, ad5, c5, by omega, by go_num, HPF.out⟩
            case measure => simp [intOf]; omega
          | false =>
            have HPT := Hid_of PT
            have HXT := Hid_of XT
            have HPM : Hid (∀ W, Below wt.heap.size wt W → Calls Try.prog 17 #[.pointer (some ⟨b, 0, none⟩)] W fun e w' => e = .returned (bV a2.p) ∧ Below W.heap.size W w') := fun W hW => (HPT.out.keep hW).pa.promised
            have HBS : Hid (∀ W, Below wt.heap.size wt W → Calls Try.prog 18 #[.pointer (some ⟨b, 0, none⟩)] W fun e w' => e = .returned (.int .i64 a2.base) ∧ w' = W) := fun W hW => (HPT.out.keep hW).pa.base
            have HVT := Hid_of (fun W (hW : Below wt.heap.size wt W) => (HPT.out.keep hW).pa.votes x.s)
            have HRV := Hid_of (fun W (hW : Below wt.heap.size wt W) => rvotes_any a2 ad5 c5 x.s W (HPT.out.keep hW).xb.xl HPT.out.ln)
            have HLE : Hid ((M.vts a2.l x.s).length ≤ 1000000) := Hid_of (by have := M.vts_le a2.l x.s; have := HPT.out.ln; omega)
            have HS : Hid (∀ w', Below wt.heap.size wt w' → (w'.cell? ⟨B, 0, none⟩ = some (.int .i64 a2.p.i) ∧ w'.cell? ⟨B, 1, none⟩ = some (.int .i64 a2.p.t) ∧ w'.cell? ⟨B, 2, none⟩ = some (.int .i64 a2.base) ∧ w'.cell? ⟨B, 3, none⟩ = some (.slice ad5 a2.l.length c5)) ∧ w'.cell? ⟨bx, 0, none⟩ = some (.int .i64 x.s)) := fun w' hb => ⟨(row4 (bel_row HPT.out.bx.row hb)).1, (row4 (bel_row HXT.out hb)).1.1⟩
            have hne := ne28 a2.p.i a2.p.t
            clear PT XT
            go_wp2_with fail
            refine wp_region_held_drew (S := fun wq => Below (wt).heap.size (wt) wq) (by kernel_rfl) (Below.drew (Below.refl _ _)) (fun hHeld => ?_)
            refine wpAnyH_take (i := 0) (oi := ?p0af) (v := ?v0af) ?o0af (by kernel_rfl) (by kernel_rfl) (by kernel_rfl) ?q0af ?y0af hHeld ?r0af
            case o0af => simp only [List.getElem?_toArray, List.getElem?_cons_zero]; rfl
            case q0af => exact fun _ _ _ h => h
            case y0af => (refine Or.inl ⟨rfl, ?_⟩; intro wq hq; obtain ⟨⟨z0, z1, z2, z3⟩, y0⟩ := HS.out wq hq; go_simp; try with_reducible rfl)
            simp only [Act.put, List.setIfInBounds_toArray, List.set_cons_zero, List.set_cons_succ]
            refine wpAnyH_take (i := 1) (oi := ?p1af) (v := ?v1af) ?o1af (by kernel_rfl) (by kernel_rfl) (by kernel_rfl) ?q1af ?y1af hHeld ?r1af
            case o1af => simp only [List.getElem?_toArray, List.getElem?_cons_succ, List.getElem?_cons_zero]; rfl
            case q1af => exact fun _ _ _ h => h
            case y1af => (refine Or.inl ⟨rfl, ?_⟩; intro wq hq; obtain ⟨⟨z0, z1, z2, z3⟩, y0⟩ := HS.out wq hq; go_simp; try with_reducible rfl)
            simp only [Act.put, List.setIfInBounds_toArray, List.set_cons_zero, List.set_cons_succ]
            refine wpAnyH_take (i := 2) (oi := ?p2af) (v := ?v2af) ?o2af (by kernel_rfl) (by kernel_rfl) (by kernel_rfl) ?q2af ?y2af hHeld ?r2af
            case o2af => simp only [List.getElem?_toArray, List.getElem?_cons_succ, List.getElem?_cons_zero]; rfl
            case q2af => exact fun _ _ _ h => h
            case y2af => (refine Or.inl ⟨rfl, ?_⟩; intro wq hq; obtain ⟨⟨z0, z1, z2, z3⟩, y0⟩ := HS.out wq hq; go_simp; try with_reducible rfl)
            simp only [Act.put, List.setIfInBounds_toArray, List.set_cons_zero, List.set_cons_succ]
            refine wpAnyH_take (i := 3) (oi := ?p3af) (v := ?v3af) ?o3af (by kernel_rfl) (by kernel_rfl) (by kernel_rfl) ?q3af ?y3af hHeld ?r3af
            case o3af => simp only [List.getElem?_toArray, List.getElem?_cons_succ, List.getElem?_cons_zero]; rfl
            case q3af => exact fun _ _ _ h => h
            case y3af => (refine Or.inl ⟨rfl, ?_⟩; intro wq hq; obtain ⟨⟨z0, z1, z2, z3⟩, y0⟩ := HS.out wq hq; go_simp; try with_reducible rfl)
            simp only [Act.put, List.setIfInBounds_toArray, List.set_cons_zero, List.set_cons_succ]
            refine wpAnyH_take (i := 5) (oi := ?p5af) (v := ?v5af) ?o5af (by kernel_rfl) (by kernel_rfl) (by kernel_rfl) ?q5af ?y5af hHeld ?r5af
            case o5af => simp only [List.getElem?_toArray, List.getElem?_cons_succ, List.getElem?_cons_zero]; rfl
            case q5af => exact fun _ _ _ h => h
            case y5af => (refine Or.inl ⟨rfl, ?_⟩; intro wq hq; obtain ⟨⟨z0, z1, z2, z3⟩, y0⟩ := HS.out wq hq; go_simp; try with_reducible rfl)
            simp only [Act.put, List.setIfInBounds_toArray, List.set_cons_zero, List.set_cons_succ]
            refine wpAnyH_take (i := 6) (oi := ?p6af) (v := ?v6af) ?o6af (by kernel_rfl) (by kernel_rfl) (by kernel_rfl) ?q6af ?y6af hHeld ?r6af
            case o6af => simp only [List.getElem?_toArray, List.getElem?_cons_succ, List.getElem?_cons_zero]; rfl
            case q6af => exact fun _ _ _ h => h
            case y6af => (refine Or.inl ⟨rfl, ?_⟩; intro wq hq; obtain ⟨⟨z0, z1, z2, z3⟩, y0⟩ := HS.out wq hq; go_simp; try with_reducible rfl)
            simp only [Act.put, List.setIfInBounds_toArray, List.set_cons_zero, List.set_cons_succ]
            refine wpAnyH_ready (rs := [4]) (by kernel_rfl) (by simp) ?_
            refine AllReadyH.cons (o := ?p4af) ?o4af ?s4af AllReadyH.nil
            case o4af => simp only [List.getElem?_toArray, List.getElem?_cons_succ, List.getElem?_cons_zero]; rfl
            intro K hK
            go_simp
            refine (HPM.out _ hHeld).mono ?_
            rintro e v4 ⟨rfl, hb4⟩
            have B4 : Below wt.heap.size wt v4 := hHeld.trans (hb4.mono hHeld.size)
            refine hK.out _ _ B4 (fun hHeld => ?_)
            clear hK K
            refine wpAnyH_take (i := 7) (oi := ?p7af) (v := ?v7af) ?o7af (by kernel_rfl) (by kernel_rfl) (by kernel_rfl) ?q7af ?y7af hHeld ?r7af
            case o7af => simp only [List.getElem?_toArray, List.getElem?_cons_succ, List.getElem?_cons_zero]; rfl
            case q7af => exact fun _ _ _ h => h
            case y7af => (refine Or.inl ⟨rfl, ?_⟩; intro wq hq; obtain ⟨⟨z0, z1, z2, z3⟩, y0⟩ := HS.out wq hq; go_simp; try with_reducible rfl)
            simp only [Act.put, List.setIfInBounds_toArray, List.set_cons_zero, List.set_cons_succ]
            refine wpAnyH_take (i := 8) (oi := ?p8af) (v := ?v8af) ?o8af (by kernel_rfl) (by kernel_rfl) (by kernel_rfl) ?q8af ?y8af hHeld ?r8af
            case o8af => simp only [List.getElem?_toArray, List.getElem?_cons_succ, List.getElem?_cons_zero]; rfl
            case q8af => exact fun _ _ _ h => h
            case y8af => (refine Or.inl ⟨rfl, ?_⟩; intro wq hq; obtain ⟨⟨z0, z1, z2, z3⟩, y0⟩ := HS.out wq hq; go_simp; try with_reducible rfl)
            simp only [Act.put, List.setIfInBounds_toArray, List.set_cons_zero, List.set_cons_succ]
            refine wpAnyH_take (i := 9) (oi := ?p9af) (v := ?v9af) ?o9af (by kernel_rfl) (by kernel_rfl) (by kernel_rfl) ?q9af ?y9af hHeld ?r9af
            case o9af => simp only [List.getElem?_toArray, List.getElem?_cons_succ, List.getElem?_cons_zero]; rfl
            case q9af => exact fun _ _ _ h => h
            case y9af => (refine Or.inl ⟨rfl, ?_⟩; intro wq hq; obtain ⟨⟨z0, z1, z2, z3⟩, y0⟩ := HS.out wq hq; go_simp; try with_reducible rfl)
            simp only [Act.put, List.setIfInBounds_toArray, List.set_cons_zero, List.set_cons_succ]
            refine wpAnyH_take (i := 10) (oi := ?p10af) (v := ?v10af) ?o10af (by kernel_rfl) (by kernel_rfl) (by kernel_rfl) ?q10af ?y10af hHeld ?r10af
            case o10af => simp only [List.getElem?_toArray, List.getElem?_cons_succ, List.getElem?_cons_zero]; rfl
            case q10af => exact fun _ _ _ h => h
            case y10af => (refine Or.inl ⟨rfl, ?_⟩; intro wq hq; obtain ⟨⟨z0, z1, z2, z3⟩, y0⟩ := HS.out wq hq; go_simp; try with_reducible rfl)
            simp only [Act.put, List.setIfInBounds_toArray, List.set_cons_zero, List.set_cons_succ]
            refine wpAnyH_take (i := 12) (oi := ?p12af) (v := ?v12af) ?o12af (by kernel_rfl) (by kernel_rfl) (by kernel_rfl) ?q12af ?y12af hHeld ?r12af
            case o12af => simp only [List.getElem?_toArray, List.getElem?_cons_succ, List.getElem?_cons_zero]; rfl
            case q12af => exact fun _ _ _ h => h
            case y12af => (refine Or.inl ⟨rfl, ?_⟩; intro wq hq; obtain ⟨⟨z0, z1, z2, z3⟩, y0⟩ := HS.out wq hq; go_simp; try with_reducible rfl)
            simp only [Act.put, List.setIfInBounds_toArray, List.set_cons_zero, List.set_cons_succ]
            refine wpAnyH_take (i := 13) (oi := ?p13af) (v := ?v13af) ?o13af (by kernel_rfl) (by kernel_rfl) (by kernel_rfl) ?q13af ?y13af hHeld ?r13af
            case o13af => simp only [List.getElem?_toArray, List.getElem?_cons_succ, List.getElem?_cons_zero]; rfl
            case q13af => exact fun _ _ _ h => h
            case y13af => (refine Or.inl ⟨rfl, ?_⟩; intro wq hq; obtain ⟨⟨z0, z1, z2, z3⟩, y0⟩ := HS.out wq hq; go_simp; try with_reducible rfl)
            simp only [Act.put, List.setIfInBounds_toArray, List.set_cons_zero, List.set_cons_succ]
            refine wpAnyH_ready (rs := [11]) (by kernel_rfl) (by simp) ?_
            refine AllReadyH.cons (o := ?p11af) ?o11af ?s11af AllReadyH.nil
            case o11af => simp only [List.getElem?_toArray, List.getElem?_cons_succ, List.getElem?_cons_zero]; rfl
            intro K hK
            go_simp
            refine (HBS.out _ hHeld).mono ?_
            rintro e v11 ⟨rfl, rfl⟩
            refine hK.out _ _ hHeld (fun hHeld => ?_)
            clear hK K
            refine wpAnyH_take (i := 14) (oi := ?p14af) (v := ?v14af) ?o14af (by kernel_rfl) (by kernel_rfl) (by kernel_rfl) ?q14af ?y14af hHeld ?r14af
            case o14af => simp only [List.getElem?_toArray, List.getElem?_cons_succ, List.getElem?_cons_zero]; rfl
            case q14af => exact fun _ _ _ h => h
            case y14af => (refine Or.inl ⟨rfl, ?_⟩; intro wq hq; obtain ⟨⟨z0, z1, z2, z3⟩, y0⟩ := HS.out wq hq; go_simp; try with_reducible rfl)
            simp only [Act.put, List.setIfInBounds_toArray, List.set_cons_zero, List.set_cons_succ]
            refine wpAnyH_take (i := 15) (oi := ?p15af) (v := ?v15af) ?o15af (by kernel_rfl) (by kernel_rfl) (by kernel_rfl) ?q15af ?y15af hHeld ?r15af
            case o15af => simp only [List.getElem?_toArray, List.getElem?_cons_succ, List.getElem?_cons_zero]; rfl
            case q15af => exact fun _ _ _ h => h
            case y15af => (refine Or.inl ⟨rfl, ?_⟩; intro wq hq; obtain ⟨⟨z0, z1, z2, z3⟩, y0⟩ := HS.out wq hq; go_simp; try with_reducible rfl)
            simp only [Act.put, List.setIfInBounds_toArray, List.set_cons_zero, List.set_cons_succ]
            refine wpAnyH_take (i := 16) (oi := ?p16af) (v := ?v16af) ?o16af (by kernel_rfl) (by kernel_rfl) (by kernel_rfl) ?q16af ?y16af hHeld ?r16af
            case o16af => simp only [List.getElem?_toArray, List.getElem?_cons_succ, List.getElem?_cons_zero]; rfl
            case q16af => exact fun _ _ _ h => h
            case y16af => (refine Or.inl ⟨rfl, ?_⟩; intro wq hq; obtain ⟨⟨z0, z1, z2, z3⟩, y0⟩ := HS.out wq hq; go_simp; try with_reducible rfl)
            simp only [Act.put, List.setIfInBounds_toArray, List.set_cons_zero, List.set_cons_succ]
            refine wpAnyH_take (i := 17) (oi := ?p17af) (v := ?v17af) ?o17af (by kernel_rfl) (by kernel_rfl) (by kernel_rfl) ?q17af ?y17af hHeld ?r17af
            case o17af => simp only [List.getElem?_toArray, List.getElem?_cons_succ, List.getElem?_cons_zero]; rfl
            case q17af => exact fun _ _ _ h => h
            case y17af => (refine Or.inl ⟨rfl, ?_⟩; intro wq hq; obtain ⟨⟨z0, z1, z2, z3⟩, y0⟩ := HS.out wq hq; go_simp; try with_reducible rfl)
            simp only [Act.put, List.setIfInBounds_toArray, List.set_cons_zero, List.set_cons_succ]
            refine wpAnyH_take (i := 18) (oi := ?p18af) (v := ?v18af) ?o18af (by kernel_rfl) (by kernel_rfl) (by kernel_rfl) ?q18af ?y18af hHeld ?r18af
            case o18af => simp only [List.getElem?_toArray, List.getElem?_cons_succ, List.getElem?_cons_zero]; rfl
            case q18af => exact fun _ _ _ h => h
            case y18af => (refine Or.inl ⟨rfl, ?_⟩; intro wq hq; obtain ⟨⟨z0, z1, z2, z3⟩, y0⟩ := HS.out wq hq; go_simp; try with_reducible rfl)
            simp only [Act.put, List.setIfInBounds_toArray, List.set_cons_zero, List.set_cons_succ]
            refine wpAnyH_take (i := 19) (oi := ?p19af) (v := ?v19af) ?o19af (by kernel_rfl) (by kernel_rfl) (by kernel_rfl) ?q19af ?y19af hHeld ?r19af
            case o19af => simp only [List.getElem?_toArray, List.getElem?_cons_succ, List.getElem?_cons_zero]; rfl
            case q19af => exact fun _ _ _ h => h
            case y19af => (refine Or.inl ⟨rfl, ?_⟩; intro wq hq; obtain ⟨⟨z0, z1, z2, z3⟩, y0⟩ := HS.out wq hq; go_simp; try with_reducible rfl)
            simp only [Act.put, List.setIfInBounds_toArray, List.set_cons_zero, List.set_cons_succ]
            refine wpAnyH_take (i := 21) (oi := ?p21af) (v := ?v21af) ?o21af (by kernel_rfl) (by kernel_rfl) (by kernel_rfl) ?q21af ?y21af hHeld ?r21af
            case o21af => simp only [List.getElem?_toArray, List.getElem?_cons_succ, List.getElem?_cons_zero]; rfl
            case q21af => exact fun _ _ _ h => h
            case y21af => (refine Or.inl ⟨rfl, ?_⟩; intro wq hq; obtain ⟨⟨z0, z1, z2, z3⟩, y0⟩ := HS.out wq hq; go_simp; try with_reducible rfl)
            simp only [Act.put, List.setIfInBounds_toArray, List.set_cons_zero, List.set_cons_succ]
            refine wpAnyH_take (i := 22) (oi := ?p22af) (v := ?v22af) ?o22af (by kernel_rfl) (by kernel_rfl) (by kernel_rfl) ?q22af ?y22af hHeld ?r22af
            case o22af => simp only [List.getElem?_toArray, List.getElem?_cons_succ, List.getElem?_cons_zero]; rfl
            case q22af => exact fun _ _ _ h => h
            case y22af => (refine Or.inl ⟨rfl, ?_⟩; intro wq hq; obtain ⟨⟨z0, z1, z2, z3⟩, y0⟩ := HS.out wq hq; go_simp; try with_reducible rfl)
            simp only [Act.put, List.setIfInBounds_toArray, List.set_cons_zero, List.set_cons_succ]
            refine wpAnyH_take (i := 23) (oi := ?p23af) (v := ?v23af) ?o23af (by kernel_rfl) (by kernel_rfl) (by kernel_rfl) ?q23af ?y23af hHeld ?r23af
            case o23af => simp only [List.getElem?_toArray, List.getElem?_cons_succ, List.getElem?_cons_zero]; rfl
            case q23af => exact fun _ _ _ h => h
            case y23af => (refine Or.inl ⟨rfl, ?_⟩; intro wq hq; obtain ⟨⟨z0, z1, z2, z3⟩, y0⟩ := HS.out wq hq; go_simp; try with_reducible rfl)
            simp only [Act.put, List.setIfInBounds_toArray, List.set_cons_zero, List.set_cons_succ]
            refine wpAnyH_ready (rs := [20]) (by kernel_rfl) (by simp) ?_
            refine AllReadyH.cons (o := ?p20af) ?o20af ?s20af AllReadyH.nil
            case o20af => simp only [List.getElem?_toArray, List.getElem?_cons_succ, List.getElem?_cons_zero]; rfl
            intro K hK
            go_simp
            refine (HVT.out _ hHeld).mono ?_
            rintro e v20 ⟨a20, c20, rfl, hx20, _, hb20⟩
            have B20 : Below wt.heap.size wt v20 := hHeld.trans (hb20.mono hHeld.size)
            refine hK.out _ _ B20 (fun hHeld => ?_)
            clear hK K
            refine wpAnyH_ready (rs := [24]) (by kernel_rfl) (by simp) ?_
            refine AllReadyH.cons (o := ?p24af) ?o24af ?s24af AllReadyH.nil
            case o24af => simp only [List.getElem?_toArray, List.getElem?_cons_succ, List.getElem?_cons_zero]; rfl
            intro K hK
            go_simp
            refine (HRV.out _ hHeld).mono ?_
            rintro e v24 hrv
            obtain ⟨a24, c24, rfl, hx24, _, hb24⟩ := hrv.mono
            have B24 : Below wt.heap.size wt v24 := hHeld.trans (hb24.mono hHeld.size)
            refine hK.out _ _ B24 (fun hHeld => ?_)
            clear hK K
            refine wpAnyH_ready (rs := [25]) (by kernel_rfl) (by simp) ?_
            refine AllReadyH.cons (o := ?p25af) ?o25af ?s25af AllReadyH.nil
            case o25af => simp only [List.getElem?_toArray, List.getElem?_cons_succ, List.getElem?_cons_zero]; rfl
            intro K hK
            go_simp
            refine (same_any a20 c20 a24 c24 _ _ (HLE.out) (hx20.at'.keep hb24) hx24.at').mono ?_
            rintro e v25 ⟨rfl, hb25⟩
            have B25 : Below wt.heap.size wt v25 := hHeld.trans (hb25.mono hHeld.size)
            refine hK.out _ _ B25 (fun hHeld => ?_)
            clear hK K
            refine wpAnyH_take (i := 26) (oi := ?p26af) (v := ?v26af) ?o26af (by kernel_rfl) (by kernel_rfl) (by kernel_rfl) ?q26af ?y26af hHeld ?r26af
            case o26af => simp only [List.getElem?_toArray, List.getElem?_cons_succ, List.getElem?_cons_zero]; rfl
            case q26af => exact fun _ _ _ h => h
            case y26af => (refine Or.inl ⟨rfl, ?_⟩; intro wq hq; obtain ⟨⟨z0, z1, z2, z3⟩, y0⟩ := HS.out wq hq; go_simp; try with_reducible rfl)
            simp only [Act.put, List.setIfInBounds_toArray, List.set_cons_zero, List.set_cons_succ]
            refine wpAnyH_take (i := 27) (oi := ?p27af) (v := ?v27af) ?o27af (by kernel_rfl) (by kernel_rfl) (by kernel_rfl) ?q27af ?y27af hHeld ?r27af
            case o27af => simp only [List.getElem?_toArray, List.getElem?_cons_succ, List.getElem?_cons_zero]; rfl
            case q27af => exact fun _ _ _ h => h
            case y27af => (refine Or.inl ⟨rfl, ?_⟩; intro wq hq; obtain ⟨⟨z0, z1, z2, z3⟩, y0⟩ := HS.out wq hq; go_simp; try with_reducible rfl)
            simp only [Act.put, List.setIfInBounds_toArray, List.set_cons_zero, List.set_cons_succ]
            refine wpAnyH_done (by kernel_rfl) ?_ _
            have HPF := Hid_of (HPT.out.keep hHeld)
            clear hHeld HPM HBS HVT HRV HS HPT
            go_wp2
            go_roundw
            case rel => exact ⟨k + 1, F5, a2, ad5, c5, by omega, by go_num, HPF.out⟩
            case measure => simp [intOf]; omega
        · by_cases hk1 : dk = 1
          · subst hk1
            have hc := HP.out.raccept HOK.out x
            go_wp2_with fail
            refine hc.mono ?_
            rintro e w2 ⟨a2', c2', rfl, Xd, hb2⟩
            have HL2 := Hid_of (M.acs_ok HOK.out x).len
            clear hc
            obtain ⟨d2, hd2⟩ : ∃ d2, M.acs s x = d2 := ⟨_, rfl⟩
            obtain ⟨rv, hrv⟩ : ∃ rv, M.acb s x = rv := ⟨_, rfl⟩
            have HD2 := Hid_of hd2
            have HRV2 := Hid_of hrv
            rw [hd2] at Xd HL2
            rw [hd2, hrv]
            clear hd2 hrv
            have P2 := HP.out.keep hb2
            have hb3 := bel1 w2 (.cells #[.int .i64 d2.p.i, .int .i64 d2.p.t, .int .i64 d2.base, .slice a2' d2.l.length c2'] 31)
            have hr3 := heap_alloc_last w2 (.cells #[.int .i64 d2.p.i, .int .i64 d2.p.t, .int .i64 d2.base, .slice a2' d2.l.length c2'] 31)
            obtain ⟨W3, HW3⟩ : ∃ W3, Hid (w2.alloc (.cells #[.int .i64 d2.p.i, .int .i64 d2.p.t, .int .i64 d2.base, .slice a2' d2.l.length c2'] 31) = W3) := ⟨_, Hid_of rfl⟩
            rw [HW3.out] at hb3 hr3
            have P3 := P2.keep hb3
            have XD3 := Xd.up hb3
            have P4 := P3.doc XD3 HL2.out
            have hbx2 := bel_row (bel_row HX.out hb2) hb3
            have X4 := (put4_oth HNB.out (.int .i64 d2.p.i) (.int .i64 d2.p.t) (.int .i64 d2.base) (.slice a2' d2.l.length c2')).trans hbx2
            obtain ⟨⟨t0, t1, t2, t3⟩, _⟩ := row4 hr3
            obtain ⟨⟨r0, r1, r2, r3⟩, rf⟩ := row4 P3.bx.row
            have rf0 := rf 0
            have rf1 := rf 1
            have rf2 := rf 2
            have rf3 := rf 3
            obtain ⟨bY, hbY⟩ : ∃ bY, w2.heap.size = bY := ⟨_, rfl⟩
            rw [hbY] at t0 t1 t2 t3
            have hWp : (((W3.setCell ⟨B, 0, none⟩ (.int .i64 d2.p.i)).setCell ⟨B, 1, none⟩ (.int .i64 d2.p.t)).setCell ⟨B, 2, none⟩ (.int .i64 d2.base)).setCell ⟨B, 3, none⟩ (.slice a2' d2.l.length c2') = put4 W3 B (.int .i64 d2.p.i) (.int .i64 d2.p.t) (.int .i64 d2.base) (.slice a2' d2.l.length c2') := rfl
            have hp := P4.pa.accept x
            rw [HD2.out, HRV2.out] at hp
            have HP4 := Hid_of P4
            have HX4 := Hid_of X4
            obtain ⟨W4, HW4⟩ : ∃ W4, Hid (put4 W3 B (.int .i64 d2.p.i) (.int .i64 d2.p.t) (.int .i64 d2.base) (.slice a2' d2.l.length c2') = W4) := ⟨_, Hid_of rfl⟩
            rw [HW4.out] at hp HP4 HX4 hWp
            have HWP := Hid_of hWp
            have HBY := Hid_of hbY
            obtain ⟨⟨j0, j1, j2, j3⟩, _⟩ := row4 HX4.out
            clear P2 hb3 hr3 P3 XD3 P4 hbx2 X4 rf Xd hb2 hWp hbY HW4
            go_upto_region 17 with fail
            rw [HW3.out]
            try rw [HBY.out]
            clear HW3
            go_upto_region 18 with fail
            rw [HWP.out]
            clear HWP t0 t1 t2 t3 r0 r1 r2 r3 rf0 rf1 rf2 rf3
            go_wp2_with fail
            refine hp.mono ?_
            rintro e wt ⟨F5, rfl, S5, Q5⟩
            have PT := HP4.out.prog Q5 S5
            have XT := ((BX.mk HX4.out HNF.out).step Q5).row
            clear hp S5 Q5 HP4 HX4 j0 j1 j2 j3
            obtain ⟨ad5, hd5⟩ : ∃ ad5, a2' = ad5 := ⟨_, rfl⟩
            obtain ⟨c5, hc5⟩ : ∃ c5, c2' = c5 := ⟨_, rfl⟩
            obtain ⟨a2, ha2⟩ : ∃ a2, d2 = a2 := ⟨_, rfl⟩
            rw [hd5, hc5, ha2] at PT
            clear hd5 hc5 ha2
            cases rv with
            | true =>
              have HPT := Hid_of PT
              have HXT := Hid_of XT
              have HPM : Hid (∀ W, Below wt.heap.size wt W → Calls Try.prog 17 #[.pointer (some ⟨b, 0, none⟩)] W fun e w' => e = .returned (bV a2.p) ∧ Below W.heap.size W w') := fun W hW => (HPT.out.keep hW).pa.promised
              have HBS : Hid (∀ W, Below wt.heap.size wt W → Calls Try.prog 18 #[.pointer (some ⟨b, 0, none⟩)] W fun e w' => e = .returned (.int .i64 a2.base) ∧ w' = W) := fun W hW => (HPT.out.keep hW).pa.base
              have HVT := Hid_of (fun W (hW : Below wt.heap.size wt W) => (HPT.out.keep hW).pa.votes x.s)
              have HRV := Hid_of (fun W (hW : Below wt.heap.size wt W) => rvotes_any a2 ad5 c5 x.s W (HPT.out.keep hW).xb.xl HPT.out.ln)
              have HLE : Hid ((M.vts a2.l x.s).length ≤ 1000000) := Hid_of (by have := M.vts_le a2.l x.s; have := HPT.out.ln; omega)
              have HS : Hid (∀ w', Below wt.heap.size wt w' → (w'.cell? ⟨B, 0, none⟩ = some (.int .i64 a2.p.i) ∧ w'.cell? ⟨B, 1, none⟩ = some (.int .i64 a2.p.t) ∧ w'.cell? ⟨B, 2, none⟩ = some (.int .i64 a2.base) ∧ w'.cell? ⟨B, 3, none⟩ = some (.slice ad5 a2.l.length c5)) ∧ w'.cell? ⟨bx, 0, none⟩ = some (.int .i64 x.s)) := fun w' hb => ⟨(row4 (bel_row HPT.out.bx.row hb)).1, (row4 (bel_row HXT.out hb)).1.1⟩
              have hne := ne28 a2.p.i a2.p.t
              clear PT XT
              go_wp2_with fail
              refine wp_region_held_drew (S := fun wq => Below (wt).heap.size (wt) wq) (by kernel_rfl) (Below.drew (Below.refl _ _)) (fun hHeld => ?_)
              refine wpAnyH_take (i := 0) (oi := ?p0bt) (v := ?v0bt) ?o0bt (by kernel_rfl) (by kernel_rfl) (by kernel_rfl) ?q0bt ?y0bt hHeld ?r0bt
              case o0bt => simp only [List.getElem?_toArray, List.getElem?_cons_zero]; rfl
              case q0bt => exact fun _ _ _ h => h
              case y0bt => (refine Or.inl ⟨rfl, ?_⟩; intro wq hq; obtain ⟨⟨z0, z1, z2, z3⟩, y0⟩ := HS.out wq hq; go_simp; try with_reducible rfl)
              simp only [Act.put, List.setIfInBounds_toArray, List.set_cons_zero, List.set_cons_succ]
              refine wpAnyH_take (i := 1) (oi := ?p1bt) (v := ?v1bt) ?o1bt (by kernel_rfl) (by kernel_rfl) (by kernel_rfl) ?q1bt ?y1bt hHeld ?r1bt
              case o1bt => simp only [List.getElem?_toArray, List.getElem?_cons_succ, List.getElem?_cons_zero]; rfl
              case q1bt => exact fun _ _ _ h => h
              case y1bt => (refine Or.inl ⟨rfl, ?_⟩; intro wq hq; obtain ⟨⟨z0, z1, z2, z3⟩, y0⟩ := HS.out wq hq; go_simp; try with_reducible rfl)
              simp only [Act.put, List.setIfInBounds_toArray, List.set_cons_zero, List.set_cons_succ]
              refine wpAnyH_take (i := 2) (oi := ?p2bt) (v := ?v2bt) ?o2bt (by kernel_rfl) (by kernel_rfl) (by kernel_rfl) ?q2bt ?y2bt hHeld ?r2bt
              case o2bt => simp only [List.getElem?_toArray, List.getElem?_cons_succ, List.getElem?_cons_zero]; rfl
              case q2bt => exact fun _ _ _ h => h
              case y2bt => (refine Or.inl ⟨rfl, ?_⟩; intro wq hq; obtain ⟨⟨z0, z1, z2, z3⟩, y0⟩ := HS.out wq hq; go_simp; try with_reducible rfl)
              simp only [Act.put, List.setIfInBounds_toArray, List.set_cons_zero, List.set_cons_succ]
              refine wpAnyH_take (i := 3) (oi := ?p3bt) (v := ?v3bt) ?o3bt (by kernel_rfl) (by kernel_rfl) (by kernel_rfl) ?q3bt ?y3bt hHeld ?r3bt
              case o3bt => simp only [List.getElem?_toArray, List.getElem?_cons_succ, List.getElem?_cons_zero]; rfl
              case q3bt => exact fun _ _ _ h => h
              case y3bt => (refine Or.inl ⟨rfl, ?_⟩; intro wq hq; obtain ⟨⟨z0, z1, z2, z3⟩, y0⟩ := HS.out wq hq; go_simp; try with_reducible rfl)
              simp only [Act.put, List.setIfInBounds_toArray, List.set_cons_zero, List.set_cons_succ]
              refine wpAnyH_take (i := 5) (oi := ?p5bt) (v := ?v5bt) ?o5bt (by kernel_rfl) (by kernel_rfl) (by kernel_rfl) ?q5bt ?y5bt hHeld ?r5bt
              case o5bt => simp only [List.getElem?_toArray, List.getElem?_cons_succ, List.getElem?_cons_zero]; rfl
              case q5bt => exact fun _ _ _ h => h
              case y5bt => (refine Or.inl ⟨rfl, ?_⟩; intro wq hq; obtain ⟨⟨z0, z1, z2, z3⟩, y0⟩ := HS.out wq hq; go_simp; try with_reducible rfl)
              simp only [Act.put, List.setIfInBounds_toArray, List.set_cons_zero, List.set_cons_succ]
              refine wpAnyH_take (i := 6) (oi := ?p6bt) (v := ?v6bt) ?o6bt (by kernel_rfl) (by kernel_rfl) (by kernel_rfl) ?q6bt ?y6bt hHeld ?r6bt
              case o6bt => simp only [List.getElem?_toArray, List.getElem?_cons_succ, List.getElem?_cons_zero]; rfl
              case q6bt => exact fun _ _ _ h => h
              case y6bt => (refine Or.inl ⟨rfl, ?_⟩; intro wq hq; obtain ⟨⟨z0, z1, z2, z3⟩, y0⟩ := HS.out wq hq; go_simp; try with_reducible rfl)
              simp only [Act.put, List.setIfInBounds_toArray, List.set_cons_zero, List.set_cons_succ]
              refine wpAnyH_ready (rs := [4]) (by kernel_rfl) (by simp) ?_
              refine AllReadyH.cons (o := ?p4bt) ?o4bt ?s4bt AllReadyH.nil
              case o4bt => simp only [List.getElem?_toArray, List.getElem?_cons_succ, List.getElem?_cons_zero]; rfl
              intro K hK
              go_simp
              refine (HPM.out _ hHeld).mono ?_
              rintro e v4 ⟨rfl, hb4⟩
              have B4 : Below wt.heap.size wt v4 := hHeld.trans (hb4.mono hHeld.size)
              refine hK.out _ _ B4 (fun hHeld => ?_)
              clear hK K
              refine wpAnyH_take (i := 7) (oi := ?p7bt) (v := ?v7bt) ?o7bt (by kernel_rfl) (by kernel_rfl) (by kernel_rfl) ?q7bt ?y7bt hHeld ?r7bt
              case o7bt => simp only [List.getElem?_toArray, List.getElem?_cons_succ, List.getElem?_cons_zero]; rfl
              case q7bt => exact fun _ _ _ h => h
              case y7bt => (refine Or.inl ⟨rfl, ?_⟩; intro wq hq; obtain ⟨⟨z0, z1, z2, z3⟩, y0⟩ := HS.out wq hq; go_simp; try with_reducible rfl)
              simp only [Act.put, List.setIfInBounds_toArray, List.set_cons_zero, List.set_cons_succ]
              refine wpAnyH_take (i := 8) (oi := ?p8bt) (v := ?v8bt) ?o8bt (by kernel_rfl) (by kernel_rfl) (by kernel_rfl) ?q8bt ?y8bt hHeld ?r8bt
              case o8bt => simp only [List.getElem?_toArray, List.getElem?_cons_succ, List.getElem?_cons_zero]; rfl
              case q8bt => exact fun _ _ _ h => h
              case y8bt => (refine Or.inl ⟨rfl, ?_⟩; intro wq hq; obtain ⟨⟨z0, z1, z2, z3⟩, y0⟩ := HS.out wq hq; go_simp; try with_reducible rfl)
              simp only [Act.put, List.setIfInBounds_toArray, List.set_cons_zero, List.set_cons_succ]
              refine wpAnyH_take (i := 9) (oi := ?p9bt) (v := ?v9bt) ?o9bt (by kernel_rfl) (by kernel_rfl) (by kernel_rfl) ?q9bt ?y9bt hHeld ?r9bt
              case o9bt => simp only [List.getElem?_toArray, List.getElem?_cons_succ, List.getElem?_cons_zero]; rfl
              case q9bt => exact fun _ _ _ h => h
              case y9bt => (refine Or.inl ⟨rfl, ?_⟩; intro wq hq; obtain ⟨⟨z0, z1, z2, z3⟩, y0⟩ := HS.out wq hq; go_simp; try with_reducible rfl)
              simp only [Act.put, List.setIfInBounds_toArray, List.set_cons_zero, List.set_cons_succ]
              refine wpAnyH_take (i := 10) (oi := ?p10bt) (v := ?v10bt) ?o10bt (by kernel_rfl) (by kernel_rfl) (by kernel_rfl) ?q10bt ?y10bt hHeld ?r10bt
              case o10bt => simp only [List.getElem?_toArray, List.getElem?_cons_succ, List.getElem?_cons_zero]; rfl
              case q10bt => exact fun _ _ _ h => h
              case y10bt => (refine Or.inl ⟨rfl, ?_⟩; intro wq hq; obtain ⟨⟨z0, z1, z2, z3⟩, y0⟩ := HS.out wq hq; go_simp; try with_reducible rfl)
              simp only [Act.put, List.setIfInBounds_toArray, List.set_cons_zero, List.set_cons_succ]
              refine wpAnyH_take (i := 12) (oi := ?p12bt) (v := ?v12bt) ?o12bt (by kernel_rfl) (by kernel_rfl) (by kernel_rfl) ?q12bt ?y12bt hHeld ?r12bt
              case o12bt => simp only [List.getElem?_toArray, List.getElem?_cons_succ, List.getElem?_cons_zero]; rfl
              case q12bt => exact fun _ _ _ h => h
              case y12bt => (refine Or.inl ⟨rfl, ?_⟩; intro wq hq; obtain ⟨⟨z0, z1, z2, z3⟩, y0⟩ := HS.out wq hq; go_simp; try with_reducible rfl)
              simp only [Act.put, List.setIfInBounds_toArray, List.set_cons_zero, List.set_cons_succ]
              refine wpAnyH_take (i := 13) (oi := ?p13bt) (v := ?v13bt) ?o13bt (by kernel_rfl) (by kernel_rfl) (by kernel_rfl) ?q13bt ?y13bt hHeld ?r13bt
              case o13bt => simp only [List.getElem?_toArray, List.getElem?_cons_succ, List.getElem?_cons_zero]; rfl
              case q13bt => exact fun _ _ _ h => h
              case y13bt => (refine Or.inl ⟨rfl, ?_⟩; intro wq hq; obtain ⟨⟨z0, z1, z2, z3⟩, y0⟩ := HS.out wq hq; go_simp; try with_reducible rfl)
              simp only [Act.put, List.setIfInBounds_toArray, List.set_cons_zero, List.set_cons_succ]
              refine wpAnyH_ready (rs := [11]) (by kernel_rfl) (by simp) ?_
              refine AllReadyH.cons (o := ?p11bt) ?o11bt ?s11bt AllReadyH.nil
              case o11bt => simp only [List.getElem?_toArray, List.getElem?_cons_succ, List.getElem?_cons_zero]; rfl
              intro K hK
              go_simp
              refine (HBS.out _ hHeld).mono ?_
              rintro e v11 ⟨rfl, rfl⟩
              refine hK.out _ _ hHeld (fun hHeld => ?_)
              clear hK K
              refine wpAnyH_take (i := 14) (oi := ?p14bt) (v := ?v14bt) ?o14bt (by kernel_rfl) (by kernel_rfl) (by kernel_rfl) ?q14bt ?y14bt hHeld ?r14bt
              case o14bt => simp only [List.getElem?_toArray, List.getElem?_cons_succ, List.getElem?_cons_zero]; rfl
              case q14bt => exact fun _ _ _ h => h
              case y14bt => (refine Or.inl ⟨rfl, ?_⟩; intro wq hq; obtain ⟨⟨z0, z1, z2, z3⟩, y0⟩ := HS.out wq hq; go_simp; try with_reducible rfl)
              simp only [Act.put, List.setIfInBounds_toArray, List.set_cons_zero, List.set_cons_succ]
              refine wpAnyH_take (i := 15) (oi := ?p15bt) (v := ?v15bt) ?o15bt (by kernel_rfl) (by kernel_rfl) (by kernel_rfl) ?q15bt ?y15bt hHeld ?r15bt
              case o15bt => simp only [List.getElem?_toArray, List.getElem?_cons_succ, List.getElem?_cons_zero]; rfl
              case q15bt => exact fun _ _ _ h => h
              case y15bt => (refine Or.inl ⟨rfl, ?_⟩; intro wq hq; obtain ⟨⟨z0, z1, z2, z3⟩, y0⟩ := HS.out wq hq; go_simp; try with_reducible rfl)
              simp only [Act.put, List.setIfInBounds_toArray, List.set_cons_zero, List.set_cons_succ]
              refine wpAnyH_take (i := 16) (oi := ?p16bt) (v := ?v16bt) ?o16bt (by kernel_rfl) (by kernel_rfl) (by kernel_rfl) ?q16bt ?y16bt hHeld ?r16bt
              case o16bt => simp only [List.getElem?_toArray, List.getElem?_cons_succ, List.getElem?_cons_zero]; rfl
              case q16bt => exact fun _ _ _ h => h
              case y16bt => (refine Or.inl ⟨rfl, ?_⟩; intro wq hq; obtain ⟨⟨z0, z1, z2, z3⟩, y0⟩ := HS.out wq hq; go_simp; try with_reducible rfl)
              simp only [Act.put, List.setIfInBounds_toArray, List.set_cons_zero, List.set_cons_succ]
              refine wpAnyH_take (i := 17) (oi := ?p17bt) (v := ?v17bt) ?o17bt (by kernel_rfl) (by kernel_rfl) (by kernel_rfl) ?q17bt ?y17bt hHeld ?r17bt
              case o17bt => simp only [List.getElem?_toArray, List.getElem?_cons_succ, List.getElem?_cons_zero]; rfl
              case q17bt => exact fun _ _ _ h => h
              case y17bt => (refine Or.inl ⟨rfl, ?_⟩; intro wq hq; obtain ⟨⟨z0, z1, z2, z3⟩, y0⟩ := HS.out wq hq; go_simp; try with_reducible rfl)
              simp only [Act.put, List.setIfInBounds_toArray, List.set_cons_zero, List.set_cons_succ]
              refine wpAnyH_take (i := 18) (oi := ?p18bt) (v := ?v18bt) ?o18bt (by kernel_rfl) (by kernel_rfl) (by kernel_rfl) ?q18bt ?y18bt hHeld ?r18bt
              case o18bt => simp only [List.getElem?_toArray, List.getElem?_cons_succ, List.getElem?_cons_zero]; rfl
              case q18bt => exact fun _ _ _ h => h
              case y18bt => (refine Or.inl ⟨rfl, ?_⟩; intro wq hq; obtain ⟨⟨z0, z1, z2, z3⟩, y0⟩ := HS.out wq hq; go_simp; try with_reducible rfl)
              simp only [Act.put, List.setIfInBounds_toArray, List.set_cons_zero, List.set_cons_succ]
              refine wpAnyH_take (i := 19) (oi := ?p19bt) (v := ?v19bt) ?o19bt (by kernel_rfl) (by kernel_rfl) (by kernel_rfl) ?q19bt ?y19bt hHeld ?r19bt
              case o19bt => simp only [List.getElem?_toArray, List.getElem?_cons_succ, List.getElem?_cons_zero]; rfl
              case q19bt => exact fun _ _ _ h => h
              case y19bt => (refine Or.inl ⟨rfl, ?_⟩; intro wq hq; obtain ⟨⟨z0, z1, z2, z3⟩, y0⟩ := HS.out wq hq; go_simp; try with_reducible rfl)
              simp only [Act.put, List.setIfInBounds_toArray, List.set_cons_zero, List.set_cons_succ]
              refine wpAnyH_take (i := 21) (oi := ?p21bt) (v := ?v21bt) ?o21bt (by kernel_rfl) (by kernel_rfl) (by kernel_rfl) ?q21bt ?y21bt hHeld ?r21bt
              case o21bt => simp only [List.getElem?_toArray, List.getElem?_cons_succ, List.getElem?_cons_zero]; rfl
              case q21bt => exact fun _ _ _ h => h
              case y21bt => (refine Or.inl ⟨rfl, ?_⟩; intro wq hq; obtain ⟨⟨z0, z1, z2, z3⟩, y0⟩ := HS.out wq hq; go_simp; try with_reducible rfl)
              simp only [Act.put, List.setIfInBounds_toArray, List.set_cons_zero, List.set_cons_succ]
              refine wpAnyH_take (i := 22) (oi := ?p22bt) (v := ?v22bt) ?o22bt (by kernel_rfl) (by kernel_rfl) (by kernel_rfl) ?q22bt ?y22bt hHeld ?r22bt
              case o22bt => simp only [List.getElem?_toArray, List.getElem?_cons_succ, List.getElem?_cons_zero]; rfl
              case q22bt => exact fun _ _ _ h => h
              case y22bt => (refine Or.inl ⟨rfl, ?_⟩; intro wq hq; obtain ⟨⟨z0, z1, z2, z3⟩, y0⟩ := HS.out wq hq; go_simp; try with_reducible rfl)
              simp only [Act.put, List.setIfInBounds_toArray, List.set_cons_zero, List.set_cons_succ]
              refine wpAnyH_take (i := 23) (oi := ?p23bt) (v := ?v23bt) ?o23bt (by kernel_rfl) (by kernel_rfl) (by kernel_rfl) ?q23bt ?y23bt hHeld ?r23bt
              case o23bt => simp only [List.getElem?_toArray, List.getElem?_cons_succ, List.getElem?_cons_zero]; rfl
              case q23bt => exact fun _ _ _ h => h
              case y23bt => (refine Or.inl ⟨rfl, ?_⟩; intro wq hq; obtain ⟨⟨z0, z1, z2, z3⟩, y0⟩ := HS.out wq hq; go_simp; try with_reducible rfl)
              simp only [Act.put, List.setIfInBounds_toArray, List.set_cons_zero, List.set_cons_succ]
              refine wpAnyH_ready (rs := [20]) (by kernel_rfl) (by simp) ?_
              refine AllReadyH.cons (o := ?p20bt) ?o20bt ?s20bt AllReadyH.nil
              case o20bt => simp only [List.getElem?_toArray, List.getElem?_cons_succ, List.getElem?_cons_zero]; rfl
              intro K hK
              go_simp
              refine (HVT.out _ hHeld).mono ?_
              rintro e v20 ⟨a20, c20, rfl, hx20, _, hb20⟩
              have B20 : Below wt.heap.size wt v20 := hHeld.trans (hb20.mono hHeld.size)
              refine hK.out _ _ B20 (fun hHeld => ?_)
              clear hK K
              refine wpAnyH_ready (rs := [24]) (by kernel_rfl) (by simp) ?_
              refine AllReadyH.cons (o := ?p24bt) ?o24bt ?s24bt AllReadyH.nil
              case o24bt => simp only [List.getElem?_toArray, List.getElem?_cons_succ, List.getElem?_cons_zero]; rfl
              intro K hK
              go_simp
              refine (HRV.out _ hHeld).mono ?_
              rintro e v24 hrv
              obtain ⟨a24, c24, rfl, hx24, _, hb24⟩ := hrv.mono
              have B24 : Below wt.heap.size wt v24 := hHeld.trans (hb24.mono hHeld.size)
              refine hK.out _ _ B24 (fun hHeld => ?_)
              clear hK K
              refine wpAnyH_ready (rs := [25]) (by kernel_rfl) (by simp) ?_
              refine AllReadyH.cons (o := ?p25bt) ?o25bt ?s25bt AllReadyH.nil
              case o25bt => simp only [List.getElem?_toArray, List.getElem?_cons_succ, List.getElem?_cons_zero]; rfl
              intro K hK
              go_simp
              refine (same_any a20 c20 a24 c24 _ _ (HLE.out) (hx20.at'.keep hb24) hx24.at').mono ?_
              rintro e v25 ⟨rfl, hb25⟩
              have B25 : Below wt.heap.size wt v25 := hHeld.trans (hb25.mono hHeld.size)
              refine hK.out _ _ B25 (fun hHeld => ?_)
              clear hK K
              refine wpAnyH_take (i := 26) (oi := ?p26bt) (v := ?v26bt) ?o26bt (by kernel_rfl) (by kernel_rfl) (by kernel_rfl) ?q26bt ?y26bt hHeld ?r26bt
              case o26bt => simp only [List.getElem?_toArray, List.getElem?_cons_succ, List.getElem?_cons_zero]; rfl
              case q26bt => exact fun _ _ _ h => h
              case y26bt => (refine Or.inl ⟨rfl, ?_⟩; intro wq hq; obtain ⟨⟨z0, z1, z2, z3⟩, y0⟩ := HS.out wq hq; go_simp; try with_reducible rfl)
              simp only [Act.put, List.setIfInBounds_toArray, List.set_cons_zero, List.set_cons_succ]
              refine wpAnyH_take (i := 27) (oi := ?p27bt) (v := ?v27bt) ?o27bt (by kernel_rfl) (by kernel_rfl) (by kernel_rfl) ?q27bt ?y27bt hHeld ?r27bt
              case o27bt => simp only [List.getElem?_toArray, List.getElem?_cons_succ, List.getElem?_cons_zero]; rfl
              case q27bt => exact fun _ _ _ h => h
              case y27bt => (refine Or.inl ⟨rfl, ?_⟩; intro wq hq; obtain ⟨⟨z0, z1, z2, z3⟩, y0⟩ := HS.out wq hq; go_simp; try with_reducible rfl)
              simp only [Act.put, List.setIfInBounds_toArray, List.set_cons_zero, List.set_cons_succ]
              refine wpAnyH_done (by kernel_rfl) ?_ _
              have HPF := Hid_of (HPT.out.keep hHeld)
              clear hHeld HPM HBS HVT HRV HS HPT
              go_wp2
              go_roundw
              case rel => exact ⟨k + 1, F5, a2, ad5, c5, by omega, by go_num, HPF.out⟩
              case measure => simp [intOf]; omega
            | false =>
              have HPT := Hid_of PT
              have HXT := Hid_of XT
              have HPM : Hid (∀ W, Below wt.heap.size wt W → Calls Try.prog 17 #[.pointer (some ⟨b, 0, none⟩)] W fun e w' => e = .returned (bV a2.p) ∧ Below W.heap.size W w') := fun W hW => (HPT.out.keep hW).pa.promised
              have HBS : Hid (∀ W, Below wt.heap.size wt W → Calls Try.prog 18 #[.pointer (some ⟨b, 0, none⟩)] W fun e w' => e = .returned (.int .i64 a2.base) ∧ w' = W) := fun W hW => (HPT.out.keep hW).pa.base
              have HVT := Hid_of (fun W (hW : Below wt.heap.size wt W) => (HPT.out.keep hW).pa.votes x.s)
              have HRV := Hid_of (fun W (hW : Below wt.heap.size wt W) => rvotes_any a2 ad5 c5 x.s W (HPT.out.keep hW).xb.xl HPT.out.ln)
              have HLE : Hid ((M.vts a2.l x.s).length ≤ 1000000) := Hid_of (by have := M.vts_le a2.l x.s; have := HPT.out.ln; omega)
              have HS : Hid (∀ w', Below wt.heap.size wt w' → (w'.cell? ⟨B, 0, none⟩ = some (.int .i64 a2.p.i) ∧ w'.cell? ⟨B, 1, none⟩ = some (.int .i64 a2.p.t) ∧ w'.cell? ⟨B, 2, none⟩ = some (.int .i64 a2.base) ∧ w'.cell? ⟨B, 3, none⟩ = some (.slice ad5 a2.l.length c5)) ∧ w'.cell? ⟨bx, 0, none⟩ = some (.int .i64 x.s)) := fun w' hb => ⟨(row4 (bel_row HPT.out.bx.row hb)).1, (row4 (bel_row HXT.out hb)).1.1⟩
              have hne := ne28 a2.p.i a2.p.t
              clear PT XT
              go_wp2_with fail
              refine wp_region_held_drew (S := fun wq => Below (wt).heap.size (wt) wq) (by kernel_rfl) (Below.drew (Below.refl _ _)) (fun hHeld => ?_)
              refine wpAnyH_take (i := 0) (oi := ?p0bf) (v := ?v0bf) ?o0bf (by kernel_rfl) (by kernel_rfl) (by kernel_rfl) ?q0bf ?y0bf hHeld ?r0bf
              case o0bf => simp only [List.getElem?_toArray, List.getElem?_cons_zero]; rfl
              case q0bf => exact fun _ _ _ h => h
              case y0bf => (refine Or.inl ⟨rfl, ?_⟩; intro wq hq; obtain ⟨⟨z0, z1, z2, z3⟩, y0⟩ := HS.out wq hq; go_simp; try with_reducible rfl)
              simp only [Act.put, List.setIfInBounds_toArray, List.set_cons_zero, List.set_cons_succ]
              refine wpAnyH_take (i := 1) (oi := ?p1bf) (v := ?v1bf) ?o1bf (by kernel_rfl) (by kernel_rfl) (by kernel_rfl) ?q1bf ?y1bf hHeld ?r1bf
              case o1bf => simp only [List.getElem?_toArray, List.getElem?_cons_succ, List.getElem?_cons_zero]; rfl
              case q1bf => exact fun _ _ _ h => h
              case y1bf => (refine Or.inl ⟨rfl, ?_⟩; intro wq hq; obtain ⟨⟨z0, z1, z2, z3⟩, y0⟩ := HS.out wq hq; go_simp; try with_reducible rfl)
              simp only [Act.put, List.setIfInBounds_toArray, List.set_cons_zero, List.set_cons_succ]
              refine wpAnyH_take (i := 2) (oi := ?p2bf) (v := ?v2bf) ?o2bf (by kernel_rfl) (by kernel_rfl) (by kernel_rfl) ?q2bf ?y2bf hHeld ?r2bf
              case o2bf => simp only [List.getElem?_toArray, List.getElem?_cons_succ, List.getElem?_cons_zero]; rfl
              case q2bf => exact fun _ _ _ h => h
              case y2bf => (refine Or.inl ⟨rfl, ?_⟩; intro wq hq; obtain ⟨⟨z0, z1, z2, z3⟩, y0⟩ := HS.out wq hq; go_simp; try with_reducible rfl)
              simp only [Act.put, List.setIfInBounds_toArray, List.set_cons_zero, List.set_cons_succ]
              refine wpAnyH_take (i := 3) (oi := ?p3bf) (v := ?v3bf) ?o3bf (by kernel_rfl) (by kernel_rfl) (by kernel_rfl) ?q3bf ?y3bf hHeld ?r3bf
              case o3bf => simp only [List.getElem?_toArray, List.getElem?_cons_succ, List.getElem?_cons_zero]; rfl
              case q3bf => exact fun _ _ _ h => h
              case y3bf => (refine Or.inl ⟨rfl, ?_⟩; intro wq hq; obtain ⟨⟨z0, z1, z2, z3⟩, y0⟩ := HS.out wq hq; go_simp; try with_reducible rfl)
              simp only [Act.put, List.setIfInBounds_toArray, List.set_cons_zero, List.set_cons_succ]
              refine wpAnyH_take (i := 5) (oi := ?p5bf) (v := ?v5bf) ?o5bf (by kernel_rfl) (by kernel_rfl) (by kernel_rfl) ?q5bf ?y5bf hHeld ?r5bf
              case o5bf => simp only [List.getElem?_toArray, List.getElem?_cons_succ, List.getElem?_cons_zero]; rfl
              case q5bf => exact fun _ _ _ h => h
              case y5bf => (refine Or.inl ⟨rfl, ?_⟩; intro wq hq; obtain ⟨⟨z0, z1, z2, z3⟩, y0⟩ := HS.out wq hq; go_simp; try with_reducible rfl)
              simp only [Act.put, List.setIfInBounds_toArray, List.set_cons_zero, List.set_cons_succ]
              refine wpAnyH_take (i := 6) (oi := ?p6bf) (v := ?v6bf) ?o6bf (by kernel_rfl) (by kernel_rfl) (by kernel_rfl) ?q6bf ?y6bf hHeld ?r6bf
              case o6bf => simp only [List.getElem?_toArray, List.getElem?_cons_succ, List.getElem?_cons_zero]; rfl
              case q6bf => exact fun _ _ _ h => h
              case y6bf => (refine Or.inl ⟨rfl, ?_⟩; intro wq hq; obtain ⟨⟨z0, z1, z2, z3⟩, y0⟩ := HS.out wq hq; go_simp; try with_reducible rfl)
              simp only [Act.put, List.setIfInBounds_toArray, List.set_cons_zero, List.set_cons_succ]
              refine wpAnyH_ready (rs := [4]) (by kernel_rfl) (by simp) ?_
              refine AllReadyH.cons (o := ?p4bf) ?o4bf ?s4bf AllReadyH.nil
              case o4bf => simp only [List.getElem?_toArray, List.getElem?_cons_succ, List.getElem?_cons_zero]; rfl
              intro K hK
              go_simp
              refine (HPM.out _ hHeld).mono ?_
              rintro e v4 ⟨rfl, hb4⟩
              have B4 : Below wt.heap.size wt v4 := hHeld.trans (hb4.mono hHeld.size)
              refine hK.out _ _ B4 (fun hHeld => ?_)
              clear hK K
              refine wpAnyH_take (i := 7) (oi := ?p7bf) (v := ?v7bf) ?o7bf (by kernel_rfl) (by kernel_rfl) (by kernel_rfl) ?q7bf ?y7bf hHeld ?r7bf
              case o7bf => simp only [List.getElem?_toArray, List.getElem?_cons_succ, List.getElem?_cons_zero]; rfl
              case q7bf => exact fun _ _ _ h => h
              case y7bf => (refine Or.inl ⟨rfl, ?_⟩; intro wq hq; obtain ⟨⟨z0, z1, z2, z3⟩, y0⟩ := HS.out wq hq; go_simp; try with_reducible rfl)
              simp only [Act.put, List.setIfInBounds_toArray, List.set_cons_zero, List.set_cons_succ]
              refine wpAnyH_take (i := 8) (oi := ?p8bf) (v := ?v8bf) ?o8bf (by kernel_rfl) (by kernel_rfl) (by kernel_rfl) ?q8bf ?y8bf hHeld ?r8bf
              case o8bf => simp only [List.getElem?_toArray, List.getElem?_cons_succ, List.getElem?_cons_zero]; rfl
              case q8bf => exact fun _ _ _ h => h
              case y8bf => (refine Or.inl ⟨rfl, ?_⟩; intro wq hq; obtain ⟨⟨z0, z1, z2, z3⟩, y0⟩ := HS.out wq hq; go_simp; try with_reducible rfl)
              simp only [Act.put, List.setIfInBounds_toArray, List.set_cons_zero, List.set_cons_succ]
              refine wpAnyH_take (i := 9) (oi := ?p9bf) (v := ?v9bf) ?o9bf (by kernel_rfl) (by kernel_rfl) (by kernel_rfl) ?q9bf ?y9bf hHeld ?r9bf
              case o9bf => simp only [List.getElem?_toArray, List.getElem?_cons_succ, List.getElem?_cons_zero]; rfl
              case q9bf => exact fun _ _ _ h => h
              case y9bf => (refine Or.inl ⟨rfl, ?_⟩; intro wq hq; obtain ⟨⟨z0, z1, z2, z3⟩, y0⟩ := HS.out wq hq; go_simp; try with_reducible rfl)
              simp only [Act.put, List.setIfInBounds_toArray, List.set_cons_zero, List.set_cons_succ]
              refine wpAnyH_take (i := 10) (oi := ?p10bf) (v := ?v10bf) ?o10bf (by kernel_rfl) (by kernel_rfl) (by kernel_rfl) ?q10bf ?y10bf hHeld ?r10bf
              case o10bf => simp only [List.getElem?_toArray, List.getElem?_cons_succ, List.getElem?_cons_zero]; rfl
              case q10bf => exact fun _ _ _ h => h
              case y10bf => (refine Or.inl ⟨rfl, ?_⟩; intro wq hq; obtain ⟨⟨z0, z1, z2, z3⟩, y0⟩ := HS.out wq hq; go_simp; try with_reducible rfl)
              simp only [Act.put, List.setIfInBounds_toArray, List.set_cons_zero, List.set_cons_succ]
              refine wpAnyH_take (i := 12) (oi := ?p12bf) (v := ?v12bf) ?o12bf (by kernel_rfl) (by kernel_rfl) (by kernel_rfl) ?q12bf ?y12bf hHeld ?r12bf
              case o12bf => simp only [List.getElem?_toArray, List.getElem?_cons_succ, List.getElem?_cons_zero]; rfl
              case q12bf => exact fun _ _ _ h => h
              case y12bf => (refine Or.inl ⟨rfl, ?_⟩; intro wq hq; obtain ⟨⟨z0, z1, z2, z3⟩, y0⟩ := HS.out wq hq; go_simp; try with_reducible rfl)
              simp only [Act.put, List.setIfInBounds_toArray, List.set_cons_zero, List.set_cons_succ]
              refine wpAnyH_take (i := 13) (oi := ?p13bf) (v := ?v13bf) ?o13bf (by kernel_rfl) (by kernel_rfl) (by kernel_rfl) ?q13bf ?y13bf hHeld ?r13bf
              case o13bf => simp only [List.getElem?_toArray, List.getElem?_cons_succ, List.getElem?_cons_zero]; rfl
              case q13bf => exact fun _ _ _ h => h
              case y13bf => (refine Or.inl ⟨rfl, ?_⟩; intro wq hq; obtain ⟨⟨z0, z1, z2, z3⟩, y0⟩ := HS.out wq hq; go_simp; try with_reducible rfl)
              simp only [Act.put, List.setIfInBounds_toArray, List.set_cons_zero, List.set_cons_succ]
              refine wpAnyH_ready (rs := [11]) (by kernel_rfl) (by simp) ?_
              refine AllReadyH.cons (o := ?p11bf) ?o11bf ?s11bf AllReadyH.nil
              case o11bf => simp only [List.getElem?_toArray, List.getElem?_cons_succ, List.getElem?_cons_zero]; rfl
              intro K hK
              go_simp
              refine (HBS.out _ hHeld).mono ?_
              rintro e v11 ⟨rfl, rfl⟩
              refine hK.out _ _ hHeld (fun hHeld => ?_)
              clear hK K
              refine wpAnyH_take (i := 14) (oi := ?p14bf) (v := ?v14bf) ?o14bf (by kernel_rfl) (by kernel_rfl) (by kernel_rfl) ?q14bf ?y14bf hHeld ?r14bf
              case o14bf => simp only [List.getElem?_toArray, List.getElem?_cons_succ, List.getElem?_cons_zero]; rfl
              case q14bf => exact fun _ _ _ h => h
              case y14bf => (refine Or.inl ⟨rfl, ?_⟩; intro wq hq; obtain ⟨⟨z0, z1, z2, z3⟩, y0⟩ := HS.out wq hq; go_simp; try with_reducible rfl)
              simp only [Act.put, List.setIfInBounds_toArray, List.set_cons_zero, List.set_cons_succ]
              refine wpAnyH_take (i := 15) (oi := ?p15bf) (v := ?v15bf) ?o15bf (by kernel_rfl) (by kernel_rfl) (by kernel_rfl) ?q15bf ?y15bf hHeld ?r15bf
              case o15bf => simp only [List.getElem?_toArray, List.getElem?_cons_succ, List.getElem?_cons_zero]; rfl
              case q15bf => exact fun _ _ _ h => h
              case y15bf => (refine Or.inl ⟨rfl, ?_⟩; intro wq hq; obtain ⟨⟨z0, z1, z2, z3⟩, y0⟩ := HS.out wq hq; go_simp; try with_reducible rfl)
              simp only [Act.put, List.setIfInBounds_toArray, List.set_cons_zero, List.set_cons_succ]
              refine wpAnyH_take (i := 16) (oi := ?p16bf) (v := ?v16bf) ?o16bf (by kernel_rfl) (by kernel_rfl) (by kernel_rfl) ?q16bf ?y16bf hHeld ?r16bf
              case o16bf => simp only [List.getElem?_toArray, List.getElem?_cons_succ, List.getElem?_cons_zero]; rfl
              case q16bf => exact fun _ _ _ h => h
              case y16bf => (refine Or.inl ⟨rfl, ?_⟩; intro wq hq; obtain ⟨⟨z0, z1, z2, z3⟩, y0⟩ := HS.out wq hq; go_simp; try with_reducible rfl)
              simp only [Act.put, List.setIfInBounds_toArray, List.set_cons_zero, List.set_cons_succ]
              refine wpAnyH_take (i := 17) (oi := ?p17bf) (v := ?v17bf) ?o17bf (by kernel_rfl) (by kernel_rfl) (by kernel_rfl) ?q17bf ?y17bf hHeld ?r17bf
              case o17bf => simp only [List.getElem?_toArray, List.getElem?_cons_succ, List.getElem?_cons_zero]; rfl
              case q17bf => exact fun _ _ _ h => h
              case y17bf => (refine Or.inl ⟨rfl, ?_⟩; intro wq hq; obtain ⟨⟨z0, z1, z2, z3⟩, y0⟩ := HS.out wq hq; go_simp; try with_reducible rfl)
              simp only [Act.put, List.setIfInBounds_toArray, List.set_cons_zero, List.set_cons_succ]
              refine wpAnyH_take (i := 18) (oi := ?p18bf) (v := ?v18bf) ?o18bf (by kernel_rfl) (by kernel_rfl) (by kernel_rfl) ?q18bf ?y18bf hHeld ?r18bf
              case o18bf => simp only [List.getElem?_toArray, List.getElem?_cons_succ, List.getElem?_cons_zero]; rfl
              case q18bf => exact fun _ _ _ h => h
              case y18bf => (refine Or.inl ⟨rfl, ?_⟩; intro wq hq; obtain ⟨⟨z0, z1, z2, z3⟩, y0⟩ := HS.out wq hq; go_simp; try with_reducible rfl)
              simp only [Act.put, List.setIfInBounds_toArray, List.set_cons_zero, List.set_cons_succ]
              refine wpAnyH_take (i := 19) (oi := ?p19bf) (v := ?v19bf) ?o19bf (by kernel_rfl) (by kernel_rfl) (by kernel_rfl) ?q19bf ?y19bf hHeld ?r19bf
              case o19bf => simp only [List.getElem?_toArray, List.getElem?_cons_succ, List.getElem?_cons_zero]; rfl
              case q19bf => exact fun _ _ _ h => h
              case y19bf => (refine Or.inl ⟨rfl, ?_⟩; intro wq hq; obtain ⟨⟨z0, z1, z2, z3⟩, y0⟩ := HS.out wq hq; go_simp; try with_reducible rfl)
              simp only [Act.put, List.setIfInBounds_toArray, List.set_cons_zero, List.set_cons_succ]
              refine wpAnyH_take (i := 21) (oi := ?p21bf) (v := ?v21bf) ?o21bf (by kernel_rfl) (by kernel_rfl) (by kernel_rfl) ?q21bf ?y21bf hHeld ?r21bf
              case o21bf => simp only [List.getElem?_toArray, List.getElem?_cons_succ, List.getElem?_cons_zero]; rfl
              case q21bf => exact fun _ _ _ h => h
              case y21bf => (refine Or.inl ⟨rfl, ?_⟩; intro wq hq; obtain ⟨⟨z0, z1, z2, z3⟩, y0⟩ := HS.out wq hq; go_simp; try with_reducible rfl)
              simp only [Act.put, List.setIfInBounds_toArray, List.set_cons_zero, List.set_cons_succ]
              refine wpAnyH_take (i := 22) (oi := ?p22bf) (v := ?v22bf) ?o22bf (by kernel_rfl) (by kernel_rfl) (by kernel_rfl) ?q22bf ?y22bf hHeld ?r22bf
              case o22bf => simp only [List.getElem?_toArray, List.getElem?_cons_succ, List.getElem?_cons_zero]; rfl
              case q22bf => exact fun _ _ _ h => h
              case y22bf => (refine Or.inl ⟨rfl, ?_⟩; intro wq hq; obtain ⟨⟨z0, z1, z2, z3⟩, y0⟩ := HS.out wq hq; go_simp; try with_reducible rfl)
              simp only [Act.put, List.setIfInBounds_toArray, List.set_cons_zero, List.set_cons_succ]
              refine wpAnyH_take (i := 23) (oi := ?p23bf) (v := ?v23bf) ?o23bf (by kernel_rfl) (by kernel_rfl) (by kernel_rfl) ?q23bf ?y23bf hHeld ?r23bf
              case o23bf => simp only [List.getElem?_toArray, List.getElem?_cons_succ, List.getElem?_cons_zero]; rfl
              case q23bf => exact fun _ _ _ h => h
              case y23bf => (refine Or.inl ⟨rfl, ?_⟩; intro wq hq; obtain ⟨⟨z0, z1, z2, z3⟩, y0⟩ := HS.out wq hq; go_simp; try with_reducible rfl)
              simp only [Act.put, List.setIfInBounds_toArray, List.set_cons_zero, List.set_cons_succ]
              refine wpAnyH_ready (rs := [20]) (by kernel_rfl) (by simp) ?_
              refine AllReadyH.cons (o := ?p20bf) ?o20bf ?s20bf AllReadyH.nil
              case o20bf => simp only [List.getElem?_toArray, List.getElem?_cons_succ, List.getElem?_cons_zero]; rfl
              intro K hK
              go_simp
              refine (HVT.out _ hHeld).mono ?_
              rintro e v20 ⟨a20, c20, rfl, hx20, _, hb20⟩
              have B20 : Below wt.heap.size wt v20 := hHeld.trans (hb20.mono hHeld.size)
              refine hK.out _ _ B20 (fun hHeld => ?_)
              clear hK K
              refine wpAnyH_ready (rs := [24]) (by kernel_rfl) (by simp) ?_
              refine AllReadyH.cons (o := ?p24bf) ?o24bf ?s24bf AllReadyH.nil
              case o24bf => simp only [List.getElem?_toArray, List.getElem?_cons_succ, List.getElem?_cons_zero]; rfl
              intro K hK
              go_simp
              refine (HRV.out _ hHeld).mono ?_
              rintro e v24 hrv
              obtain ⟨a24, c24, rfl, hx24, _, hb24⟩ := hrv.mono
              have B24 : Below wt.heap.size wt v24 := hHeld.trans (hb24.mono hHeld.size)
              refine hK.out _ _ B24 (fun hHeld => ?_)
              clear hK K
              refine wpAnyH_ready (rs := [25]) (by kernel_rfl) (by simp) ?_
              refine AllReadyH.cons (o := ?p25bf) ?o25bf ?s25bf AllReadyH.nil
              case o25bf => simp only [List.getElem?_toArray, List.getElem?_cons_succ, List.getElem?_cons_zero]; rfl
              intro K hK
              go_simp
              refine (same_any a20 c20 a24 c24 _ _ (HLE.out) (hx20.at'.keep hb24) hx24.at').mono ?_
              rintro e v25 ⟨rfl, hb25⟩
              have B25 : Below wt.heap.size wt v25 := hHeld.trans (hb25.mono hHeld.size)
              refine hK.out _ _ B25 (fun hHeld => ?_)
              clear hK K
              refine wpAnyH_take (i := 26) (oi := ?p26bf) (v := ?v26bf) ?o26bf (by kernel_rfl) (by kernel_rfl) (by kernel_rfl) ?q26bf ?y26bf hHeld ?r26bf
              case o26bf => simp only [List.getElem?_toArray, List.getElem?_cons_succ, List.getElem?_cons_zero]; rfl
              case q26bf => exact fun _ _ _ h => h
              case y26bf => (refine Or.inl ⟨rfl, ?_⟩; intro wq hq; obtain ⟨⟨z0, z1, z2, z3⟩, y0⟩ := HS.out wq hq; go_simp; try with_reducible rfl)
              simp only [Act.put, List.setIfInBounds_toArray, List.set_cons_zero, List.set_cons_succ]
              refine wpAnyH_take (i := 27) (oi := ?p27bf) (v := ?v27bf) ?o27bf (by kernel_rfl) (by kernel_rfl) (by kernel_rfl) ?q27bf ?y27bf hHeld ?r27bf
              case o27bf => simp only [List.getElem?_toArray, List.getElem?_cons_succ, List.getElem?_cons_zero]; rfl
              case q27bf => exact fun _ _ _ h => h
              case y27bf => (refine Or.inl ⟨rfl, ?_⟩; intro wq hq; obtain ⟨⟨z0, z1, z2, z3⟩, y0⟩ := HS.out wq hq; go_simp; try with_reducible rfl)
              simp only [Act.put, List.setIfInBounds_toArray, List.set_cons_zero, List.set_cons_succ]
              refine wpAnyH_done (by kernel_rfl) ?_ _
              have HPF := Hid_of (HPT.out.keep hHeld)
              clear hHeld HPM HBS HVT HRV HS HPT
              go_wp2
              go_roundw
              case rel => exact ⟨k + 1, F5, a2, ad5, c5, by omega, by go_num, HPF.out⟩
              case measure => simp [intOf]; omega
          · by_cases hk2 : dk = 2
            · subst hk2
              have hc := HP.out.rtrim x.s
              go_wp2_with fail
              refine hc.mono ?_
              rintro e w2 ⟨a2', c2', rfl, Xd, hb2⟩
              have HL2 := Hid_of (M.trs_ok HOK.out x.s).len
              clear hc
              obtain ⟨d2, hd2⟩ : ∃ d2, M.trs s x.s = d2 := ⟨_, rfl⟩
              obtain ⟨rv, hrv⟩ : ∃ rv, M.trn s x.s = rv := ⟨_, rfl⟩
              have HD2 := Hid_of hd2
              have HRV2 := Hid_of hrv
              rw [hd2] at Xd HL2
              rw [hd2, hrv]
              clear hd2 hrv
              have P2 := HP.out.keep hb2
              have hb3 := bel1 w2 (.cells #[.int .i64 d2.p.i, .int .i64 d2.p.t, .int .i64 d2.base, .slice a2' d2.l.length c2'] 31)
              have hr3 := heap_alloc_last w2 (.cells #[.int .i64 d2.p.i, .int .i64 d2.p.t, .int .i64 d2.base, .slice a2' d2.l.length c2'] 31)
              obtain ⟨W3, HW3⟩ : ∃ W3, Hid (w2.alloc (.cells #[.int .i64 d2.p.i, .int .i64 d2.p.t, .int .i64 d2.base, .slice a2' d2.l.length c2'] 31) = W3) := ⟨_, Hid_of rfl⟩
              rw [HW3.out] at hb3 hr3
              have P3 := P2.keep hb3
              have XD3 := Xd.up hb3
              have P4 := P3.doc XD3 HL2.out
              have hbx2 := bel_row (bel_row HX.out hb2) hb3
              have X4 := (put4_oth HNB.out (.int .i64 d2.p.i) (.int .i64 d2.p.t) (.int .i64 d2.base) (.slice a2' d2.l.length c2')).trans hbx2
              obtain ⟨⟨t0, t1, t2, t3⟩, _⟩ := row4 hr3
              obtain ⟨⟨r0, r1, r2, r3⟩, rf⟩ := row4 P3.bx.row
              have rf0 := rf 0
              have rf1 := rf 1
              have rf2 := rf 2
              have rf3 := rf 3
              obtain ⟨bY, hbY⟩ : ∃ bY, w2.heap.size = bY := ⟨_, rfl⟩
              rw [hbY] at t0 t1 t2 t3
              have hWp : (((W3.setCell ⟨B, 0, none⟩ (.int .i64 d2.p.i)).setCell ⟨B, 1, none⟩ (.int .i64 d2.p.t)).setCell ⟨B, 2, none⟩ (.int .i64 d2.base)).setCell ⟨B, 3, none⟩ (.slice a2' d2.l.length c2') = put4 W3 B (.int .i64 d2.p.i) (.int .i64 d2.p.t) (.int .i64 d2.base) (.slice a2' d2.l.length c2') := rfl
              have hp := P4.pa.trim x.s
              rw [HD2.out, HRV2.out] at hp
              have HP4 := Hid_of P4
              have HX4 := Hid_of X4
              obtain ⟨W4, HW4⟩ : ∃ W4, Hid (put4 W3 B (.int .i64 d2.p.i) (.int .i64 d2.p.t) (.int .i64 d2.base) (.slice a2' d2.l.length c2') = W4) := ⟨_, Hid_of rfl⟩
              rw [HW4.out] at hp HP4 HX4 hWp
              have HWP := Hid_of hWp
              have HBY := Hid_of hbY
              obtain ⟨⟨j0, j1, j2, j3⟩, _⟩ := row4 HX4.out
              clear P2 hb3 hr3 P3 XD3 P4 hbx2 X4 rf Xd hb2 hWp hbY HW4
              go_upto_region 21 with fail
              rw [HW3.out]
              try rw [HBY.out]
              clear HW3
              go_upto_region 22 with fail
              rw [HWP.out]
              clear HWP t0 t1 t2 t3 r0 r1 r2 r3 rf0 rf1 rf2 rf3
              go_wp2_with fail
              refine hp.mono ?_
              rintro e wt ⟨F5, rfl, S5, Q5⟩
              have PT := HP4.out.prog Q5 S5
              have XT := ((BX.mk HX4.out HNF.out).step Q5).row
              clear hp S5 Q5 HP4 HX4 j0 j1 j2 j3
              obtain ⟨ad5, hd5⟩ : ∃ ad5, a2' = ad5 := ⟨_, rfl⟩
              obtain ⟨c5, hc5⟩ : ∃ c5, c2' = c5 := ⟨_, rfl⟩
              obtain ⟨a2, ha2⟩ : ∃ a2, d2 = a2 := ⟨_, rfl⟩
              rw [hd5, hc5, ha2] at PT
              clear hd5 hc5 ha2
              have HPT := Hid_of PT
              have HXT := Hid_of XT
              have HPM : Hid (∀ W, Below wt.heap.size wt W → Calls Try.prog 17 #[.pointer (some ⟨b, 0, none⟩)] W fun e w' => e = .returned (bV a2.p) ∧ Below W.heap.size W w') := fun W hW => (HPT.out.keep hW).pa.promised
              have HBS : Hid (∀ W, Below wt.heap.size wt W → Calls Try.prog 18 #[.pointer (some ⟨b, 0, none⟩)] W fun e w' => e = .returned (.int .i64 a2.base) ∧ w' = W) := fun W hW => (HPT.out.keep hW).pa.base
              have HVT := Hid_of (fun W (hW : Below wt.heap.size wt W) => (HPT.out.keep hW).pa.votes x.s)
              have HRV := Hid_of (fun W (hW : Below wt.heap.size wt W) => rvotes_any a2 ad5 c5 x.s W (HPT.out.keep hW).xb.xl HPT.out.ln)
              have HLE : Hid ((M.vts a2.l x.s).length ≤ 1000000) := Hid_of (by have := M.vts_le a2.l x.s; have := HPT.out.ln; omega)
              have HS : Hid (∀ w', Below wt.heap.size wt w' → (w'.cell? ⟨B, 0, none⟩ = some (.int .i64 a2.p.i) ∧ w'.cell? ⟨B, 1, none⟩ = some (.int .i64 a2.p.t) ∧ w'.cell? ⟨B, 2, none⟩ = some (.int .i64 a2.base) ∧ w'.cell? ⟨B, 3, none⟩ = some (.slice ad5 a2.l.length c5)) ∧ w'.cell? ⟨bx, 0, none⟩ = some (.int .i64 x.s)) := fun w' hb => ⟨(row4 (bel_row HPT.out.bx.row hb)).1, (row4 (bel_row HXT.out hb)).1.1⟩
              have hne := ne28 a2.p.i a2.p.t
              clear PT XT
              go_wp2_with fail
              refine wp_region_held_drew (S := fun wq => Below (wt).heap.size (wt) wq) (by kernel_rfl) (Below.drew (Below.refl _ _)) (fun hHeld => ?_)
              refine wpAnyH_take (i := 0) (oi := ?p0c) (v := ?v0c) ?o0c (by kernel_rfl) (by kernel_rfl) (by kernel_rfl) ?q0c ?y0c hHeld ?r0c
              case o0c => simp only [List.getElem?_toArray, List.getElem?_cons_zero]; rfl
              case q0c => exact fun _ _ _ h => h
              case y0c => (refine Or.inl ⟨rfl, ?_⟩; intro wq hq; obtain ⟨⟨z0, z1, z2, z3⟩, y0⟩ := HS.out wq hq; go_simp; try with_reducible rfl)
              simp only [Act.put, List.setIfInBounds_toArray, List.set_cons_zero, List.set_cons_succ]
              refine wpAnyH_take (i := 1) (oi := ?p1c) (v := ?v1c) ?o1c (by kernel_rfl) (by kernel_rfl) (by kernel_rfl) ?q1c ?y1c hHeld ?r1c
              case o1c => simp only [List.getElem?_toArray, List.getElem?_cons_succ, List.getElem?_cons_zero]; rfl
              case q1c => exact fun _ _ _ h => h
              case y1c => (refine Or.inl ⟨rfl, ?_⟩; intro wq hq; obtain ⟨⟨z0, z1, z2, z3⟩, y0⟩ := HS.out wq hq; go_simp; try with_reducible rfl)
              simp only [Act.put, List.setIfInBounds_toArray, List.set_cons_zero, List.set_cons_succ]
              refine wpAnyH_take (i := 2) (oi := ?p2c) (v := ?v2c) ?o2c (by kernel_rfl) (by kernel_rfl) (by kernel_rfl) ?q2c ?y2c hHeld ?r2c
              case o2c => simp only [List.getElem?_toArray, List.getElem?_cons_succ, List.getElem?_cons_zero]; rfl
              case q2c => exact fun _ _ _ h => h
              case y2c => (refine Or.inl ⟨rfl, ?_⟩; intro wq hq; obtain ⟨⟨z0, z1, z2, z3⟩, y0⟩ := HS.out wq hq; go_simp; try with_reducible rfl)
              simp only [Act.put, List.setIfInBounds_toArray, List.set_cons_zero, List.set_cons_succ]
              refine wpAnyH_take (i := 3) (oi := ?p3c) (v := ?v3c) ?o3c (by kernel_rfl) (by kernel_rfl) (by kernel_rfl) ?q3c ?y3c hHeld ?r3c
              case o3c => simp only [List.getElem?_toArray, List.getElem?_cons_succ, List.getElem?_cons_zero]; rfl
              case q3c => exact fun _ _ _ h => h
              case y3c => (refine Or.inl ⟨rfl, ?_⟩; intro wq hq; obtain ⟨⟨z0, z1, z2, z3⟩, y0⟩ := HS.out wq hq; go_simp; try with_reducible rfl)
              simp only [Act.put, List.setIfInBounds_toArray, List.set_cons_zero, List.set_cons_succ]
              refine wpAnyH_take (i := 5) (oi := ?p5c) (v := ?v5c) ?o5c (by kernel_rfl) (by kernel_rfl) (by kernel_rfl) ?q5c ?y5c hHeld ?r5c
              case o5c => simp only [List.getElem?_toArray, List.getElem?_cons_succ, List.getElem?_cons_zero]; rfl
              case q5c => exact fun _ _ _ h => h
              case y5c => (refine Or.inl ⟨rfl, ?_⟩; intro wq hq; obtain ⟨⟨z0, z1, z2, z3⟩, y0⟩ := HS.out wq hq; go_simp; try with_reducible rfl)
              simp only [Act.put, List.setIfInBounds_toArray, List.set_cons_zero, List.set_cons_succ]
              refine wpAnyH_take (i := 6) (oi := ?p6c) (v := ?v6c) ?o6c (by kernel_rfl) (by kernel_rfl) (by kernel_rfl) ?q6c ?y6c hHeld ?r6c
              case o6c => simp only [List.getElem?_toArray, List.getElem?_cons_succ, List.getElem?_cons_zero]; rfl
              case q6c => exact fun _ _ _ h => h
              case y6c => (refine Or.inl ⟨rfl, ?_⟩; intro wq hq; obtain ⟨⟨z0, z1, z2, z3⟩, y0⟩ := HS.out wq hq; go_simp; try with_reducible rfl)
              simp only [Act.put, List.setIfInBounds_toArray, List.set_cons_zero, List.set_cons_succ]
              refine wpAnyH_ready (rs := [4]) (by kernel_rfl) (by simp) ?_
              refine AllReadyH.cons (o := ?p4c) ?o4c ?s4c AllReadyH.nil
              case o4c => simp only [List.getElem?_toArray, List.getElem?_cons_succ, List.getElem?_cons_zero]; rfl
              intro K hK
              go_simp
              refine (HPM.out _ hHeld).mono ?_
              rintro e v4 ⟨rfl, hb4⟩
              have B4 : Below wt.heap.size wt v4 := hHeld.trans (hb4.mono hHeld.size)
              refine hK.out _ _ B4 (fun hHeld => ?_)
              clear hK K
              refine wpAnyH_take (i := 7) (oi := ?p7c) (v := ?v7c) ?o7c (by kernel_rfl) (by kernel_rfl) (by kernel_rfl) ?q7c ?y7c hHeld ?r7c
              case o7c => simp only [List.getElem?_toArray, List.getElem?_cons_succ, List.getElem?_cons_zero]; rfl
              case q7c => exact fun _ _ _ h => h
              case y7c => (refine Or.inl ⟨rfl, ?_⟩; intro wq hq; obtain ⟨⟨z0, z1, z2, z3⟩, y0⟩ := HS.out wq hq; go_simp; try with_reducible rfl)
              simp only [Act.put, List.setIfInBounds_toArray, List.set_cons_zero, List.set_cons_succ]
              refine wpAnyH_take (i := 8) (oi := ?p8c) (v := ?v8c) ?o8c (by kernel_rfl) (by kernel_rfl) (by kernel_rfl) ?q8c ?y8c hHeld ?r8c
              case o8c => simp only [List.getElem?_toArray, List.getElem?_cons_succ, List.getElem?_cons_zero]; rfl
              case q8c => exact fun _ _ _ h => h
              case y8c => (refine Or.inl ⟨rfl, ?_⟩; intro wq hq; obtain ⟨⟨z0, z1, z2, z3⟩, y0⟩ := HS.out wq hq; go_simp; try with_reducible rfl)
              simp only [Act.put, List.setIfInBounds_toArray, List.set_cons_zero, List.set_cons_succ]
              refine wpAnyH_take (i := 9) (oi := ?p9c) (v := ?v9c) ?o9c (by kernel_rfl) (by kernel_rfl) (by kernel_rfl) ?q9c ?y9c hHeld ?r9c
              case o9c => simp only [List.getElem?_toArray, List.getElem?_cons_succ, List.getElem?_cons_zero]; rfl
              case q9c => exact fun _ _ _ h => h
              case y9c => (refine Or.inl ⟨rfl, ?_⟩; intro wq hq; obtain ⟨⟨z0, z1, z2, z3⟩, y0⟩ := HS.out wq hq; go_simp; try with_reducible rfl)
              simp only [Act.put, List.setIfInBounds_toArray, List.set_cons_zero, List.set_cons_succ]
              refine wpAnyH_take (i := 10) (oi := ?p10c) (v := ?v10c) ?o10c (by kernel_rfl) (by kernel_rfl) (by kernel_rfl) ?q10c ?y10c hHeld ?r10c
              case o10c => simp only [List.getElem?_toArray, List.getElem?_cons_succ, List.getElem?_cons_zero]; rfl
              case q10c => exact fun _ _ _ h => h
              case y10c => (refine Or.inl ⟨rfl, ?_⟩; intro wq hq; obtain ⟨⟨z0, z1, z2, z3⟩, y0⟩ := HS.out wq hq; go_simp; try with_reducible rfl)
              simp only [Act.put, List.setIfInBounds_toArray, List.set_cons_zero, List.set_cons_succ]
              refine wpAnyH_take (i := 12) (oi := ?p12c) (v := ?v12c) ?o12c (by kernel_rfl) (by kernel_rfl) (by kernel_rfl) ?q12c ?y12c hHeld ?r12c
              case o12c => simp only [List.getElem?_toArray, List.getElem?_cons_succ, List.getElem?_cons_zero]; rfl
              case q12c => exact fun _ _ _ h => h
              case y12c => (refine Or.inl ⟨rfl, ?_⟩; intro wq hq; obtain ⟨⟨z0, z1, z2, z3⟩, y0⟩ := HS.out wq hq; go_simp; try with_reducible rfl)
              simp only [Act.put, List.setIfInBounds_toArray, List.set_cons_zero, List.set_cons_succ]
              refine wpAnyH_take (i := 13) (oi := ?p13c) (v := ?v13c) ?o13c (by kernel_rfl) (by kernel_rfl) (by kernel_rfl) ?q13c ?y13c hHeld ?r13c
              case o13c => simp only [List.getElem?_toArray, List.getElem?_cons_succ, List.getElem?_cons_zero]; rfl
              case q13c => exact fun _ _ _ h => h
              case y13c => (refine Or.inl ⟨rfl, ?_⟩; intro wq hq; obtain ⟨⟨z0, z1, z2, z3⟩, y0⟩ := HS.out wq hq; go_simp; try with_reducible rfl)
              simp only [Act.put, List.setIfInBounds_toArray, List.set_cons_zero, List.set_cons_succ]
              refine wpAnyH_ready (rs := [11]) (by kernel_rfl) (by simp) ?_
              refine AllReadyH.cons (o := ?p11c) ?o11c ?s11c AllReadyH.nil
              case o11c => simp only [List.getElem?_toArray, List.getElem?_cons_succ, List.getElem?_cons_zero]; rfl
              intro K hK
              go_simp
              refine (HBS.out _ hHeld).mono ?_
              rintro e v11 ⟨rfl, rfl⟩
              refine hK.out _ _ hHeld (fun hHeld => ?_)
              clear hK K
              refine wpAnyH_take (i := 14) (oi := ?p14c) (v := ?v14c) ?o14c (by kernel_rfl) (by kernel_rfl) (by kernel_rfl) ?q14c ?y14c hHeld ?r14c
              case o14c => simp only [List.getElem?_toArray, List.getElem?_cons_succ, List.getElem?_cons_zero]; rfl
              case q14c => exact fun _ _ _ h => h
              case y14c => (refine Or.inl ⟨rfl, ?_⟩; intro wq hq; obtain ⟨⟨z0, z1, z2, z3⟩, y0⟩ := HS.out wq hq; go_simp; try with_reducible rfl)
              simp only [Act.put, List.setIfInBounds_toArray, List.set_cons_zero, List.set_cons_succ]
              refine wpAnyH_take (i := 15) (oi := ?p15c) (v := ?v15c) ?o15c (by kernel_rfl) (by kernel_rfl) (by kernel_rfl) ?q15c ?y15c hHeld ?r15c
              case o15c => simp only [List.getElem?_toArray, List.getElem?_cons_succ, List.getElem?_cons_zero]; rfl
              case q15c => exact fun _ _ _ h => h
              case y15c => (refine Or.inl ⟨rfl, ?_⟩; intro wq hq; obtain ⟨⟨z0, z1, z2, z3⟩, y0⟩ := HS.out wq hq; go_simp; try with_reducible rfl)
              simp only [Act.put, List.setIfInBounds_toArray, List.set_cons_zero, List.set_cons_succ]
              refine wpAnyH_take (i := 16) (oi := ?p16c) (v := ?v16c) ?o16c (by kernel_rfl) (by kernel_rfl) (by kernel_rfl) ?q16c ?y16c hHeld ?r16c
              case o16c => simp only [List.getElem?_toArray, List.getElem?_cons_succ, List.getElem?_cons_zero]; rfl
              case q16c => exact fun _ _ _ h => h
              case y16c => (refine Or.inl ⟨rfl, ?_⟩; intro wq hq; obtain ⟨⟨z0, z1, z2, z3⟩, y0⟩ := HS.out wq hq; go_simp; try with_reducible rfl)
              simp only [Act.put, List.setIfInBounds_toArray, List.set_cons_zero, List.set_cons_succ]
              refine wpAnyH_take (i := 17) (oi := ?p17c) (v := ?v17c) ?o17c (by kernel_rfl) (by kernel_rfl) (by kernel_rfl) ?q17c ?y17c hHeld ?r17c
              case o17c => simp only [List.getElem?_toArray, List.getElem?_cons_succ, List.getElem?_cons_zero]; rfl
              case q17c => exact fun _ _ _ h => h
              case y17c => (refine Or.inl ⟨rfl, ?_⟩; intro wq hq; obtain ⟨⟨z0, z1, z2, z3⟩, y0⟩ := HS.out wq hq; go_simp; try with_reducible rfl)
              simp only [Act.put, List.setIfInBounds_toArray, List.set_cons_zero, List.set_cons_succ]
              refine wpAnyH_take (i := 18) (oi := ?p18c) (v := ?v18c) ?o18c (by kernel_rfl) (by kernel_rfl) (by kernel_rfl) ?q18c ?y18c hHeld ?r18c
              case o18c => simp only [List.getElem?_toArray, List.getElem?_cons_succ, List.getElem?_cons_zero]; rfl
              case q18c => exact fun _ _ _ h => h
              case y18c => (refine Or.inl ⟨rfl, ?_⟩; intro wq hq; obtain ⟨⟨z0, z1, z2, z3⟩, y0⟩ := HS.out wq hq; go_simp; try with_reducible rfl)
              simp only [Act.put, List.setIfInBounds_toArray, List.set_cons_zero, List.set_cons_succ]
              refine wpAnyH_take (i := 19) (oi := ?p19c) (v := ?v19c) ?o19c (by kernel_rfl) (by kernel_rfl) (by kernel_rfl) ?q19c ?y19c hHeld ?r19c
              case o19c => simp only [List.getElem?_toArray, List.getElem?_cons_succ, List.getElem?_cons_zero]; rfl
              case q19c => exact fun _ _ _ h => h
              case y19c => (refine Or.inl ⟨rfl, ?_⟩; intro wq hq; obtain ⟨⟨z0, z1, z2, z3⟩, y0⟩ := HS.out wq hq; go_simp; try with_reducible rfl)
              simp only [Act.put, List.setIfInBounds_toArray, List.set_cons_zero, List.set_cons_succ]
              refine wpAnyH_take (i := 21) (oi := ?p21c) (v := ?v21c) ?o21c (by kernel_rfl) (by kernel_rfl) (by kernel_rfl) ?q21c ?y21c hHeld ?r21c
              case o21c => simp only [List.getElem?_toArray, List.getElem?_cons_succ, List.getElem?_cons_zero]; rfl
              case q21c => exact fun _ _ _ h => h
              case y21c => (refine Or.inl ⟨rfl, ?_⟩; intro wq hq; obtain ⟨⟨z0, z1, z2, z3⟩, y0⟩ := HS.out wq hq; go_simp; try with_reducible rfl)
              simp only [Act.put, List.setIfInBounds_toArray, List.set_cons_zero, List.set_cons_succ]
              refine wpAnyH_take (i := 22) (oi := ?p22c) (v := ?v22c) ?o22c (by kernel_rfl) (by kernel_rfl) (by kernel_rfl) ?q22c ?y22c hHeld ?r22c
              case o22c => simp only [List.getElem?_toArray, List.getElem?_cons_succ, List.getElem?_cons_zero]; rfl
              case q22c => exact fun _ _ _ h => h
              case y22c => (refine Or.inl ⟨rfl, ?_⟩; intro wq hq; obtain ⟨⟨z0, z1, z2, z3⟩, y0⟩ := HS.out wq hq; go_simp; try with_reducible rfl)
              simp only [Act.put, List.setIfInBounds_toArray, List.set_cons_zero, List.set_cons_succ]
              refine wpAnyH_take (i := 23) (oi := ?p23c) (v := ?v23c) ?o23c (by kernel_rfl) (by kernel_rfl) (by kernel_rfl) ?q23c ?y23c hHeld ?r23c
              case o23c => simp only [List.getElem?_toArray, List.getElem?_cons_succ, List.getElem?_cons_zero]; rfl
              case q23c => exact fun _ _ _ h => h
              case y23c => (refine Or.inl ⟨rfl, ?_⟩; intro wq hq; obtain ⟨⟨z0, z1, z2, z3⟩, y0⟩ := HS.out wq hq; go_simp; try with_reducible rfl)
              simp only [Act.put, List.setIfInBounds_toArray, List.set_cons_zero, List.set_cons_succ]
              refine wpAnyH_ready (rs := [20]) (by kernel_rfl) (by simp) ?_
              refine AllReadyH.cons (o := ?p20c) ?o20c ?s20c AllReadyH.nil
              case o20c => simp only [List.getElem?_toArray, List.getElem?_cons_succ, List.getElem?_cons_zero]; rfl
              intro K hK
              go_simp
              refine (HVT.out _ hHeld).mono ?_
              rintro e v20 ⟨a20, c20, rfl, hx20, _, hb20⟩
              have B20 : Below wt.heap.size wt v20 := hHeld.trans (hb20.mono hHeld.size)
              refine hK.out _ _ B20 (fun hHeld => ?_)
              clear hK K
              refine wpAnyH_ready (rs := [24]) (by kernel_rfl) (by simp) ?_
              refine AllReadyH.cons (o := ?p24c) ?o24c ?s24c AllReadyH.nil
              case o24c => simp only [List.getElem?_toArray, List.getElem?_cons_succ, List.getElem?_cons_zero]; rfl
              intro K hK
              go_simp
              refine (HRV.out _ hHeld).mono ?_
              rintro e v24 hrv
              obtain ⟨a24, c24, rfl, hx24, _, hb24⟩ := hrv.mono
              have B24 : Below wt.heap.size wt v24 := hHeld.trans (hb24.mono hHeld.size)
              refine hK.out _ _ B24 (fun hHeld => ?_)
              clear hK K
              refine wpAnyH_ready (rs := [25]) (by kernel_rfl) (by simp) ?_
              refine AllReadyH.cons (o := ?p25c) ?o25c ?s25c AllReadyH.nil
              case o25c => simp only [List.getElem?_toArray, List.getElem?_cons_succ, List.getElem?_cons_zero]; rfl
              intro K hK
              go_simp
              refine (same_any a20 c20 a24 c24 _ _ (HLE.out) (hx20.at'.keep hb24) hx24.at').mono ?_
              rintro e v25 ⟨rfl, hb25⟩
              have B25 : Below wt.heap.size wt v25 := hHeld.trans (hb25.mono hHeld.size)
              refine hK.out _ _ B25 (fun hHeld => ?_)
              clear hK K
              refine wpAnyH_take (i := 26) (oi := ?p26c) (v := ?v26c) ?o26c (by kernel_rfl) (by kernel_rfl) (by kernel_rfl) ?q26c ?y26c hHeld ?r26c
              case o26c => simp only [List.getElem?_toArray, List.getElem?_cons_succ, List.getElem?_cons_zero]; rfl
              case q26c => exact fun _ _ _ h => h
              case y26c => (refine Or.inl ⟨rfl, ?_⟩; intro wq hq; obtain ⟨⟨z0, z1, z2, z3⟩, y0⟩ := HS.out wq hq; go_simp; try with_reducible rfl)
              simp only [Act.put, List.setIfInBounds_toArray, List.set_cons_zero, List.set_cons_succ]
              refine wpAnyH_take (i := 27) (oi := ?p27c) (v := ?v27c) ?o27c (by kernel_rfl) (by kernel_rfl) (by kernel_rfl) ?q27c ?y27c hHeld ?r27c
              case o27c => simp only [List.getElem?_toArray, List.getElem?_cons_succ, List.getElem?_cons_zero]; rfl
              case q27c => exact fun _ _ _ h => h
              case y27c => (refine Or.inl ⟨rfl, ?_⟩; intro wq hq; obtain ⟨⟨z0, z1, z2, z3⟩, y0⟩ := HS.out wq hq; go_simp; try with_reducible rfl)
              simp only [Act.put, List.setIfInBounds_toArray, List.set_cons_zero, List.set_cons_succ]
              refine wpAnyH_done (by kernel_rfl) ?_ _
              have HPF := Hid_of (HPT.out.keep hHeld)
              clear hHeld HPM HBS HVT HRV HS HPT
              go_wp2
              go_roundw
              case rel => exact ⟨k + 1, F5, a2, ad5, c5, by omega, by go_num, HPF.out⟩
              case measure => simp [intOf]; omega
            · have e0 : (dk == 0) = false := by simpa using hk0
              have e1 : (dk == 1) = false := by simpa using hk1
              have e2 : (dk == 2) = false := by simpa using hk2
              have PT := HP.out
              have XT := HX.out
              obtain ⟨wt, hwt⟩ : ∃ wt, W1 = wt := ⟨_, rfl⟩
              obtain ⟨F5, hF5⟩ : ∃ F5, F = F5 := ⟨_, rfl⟩
              obtain ⟨ad5, hd5⟩ : ∃ ad5, ad = ad5 := ⟨_, rfl⟩
              obtain ⟨c5, hc5⟩ : ∃ c5, c = c5 := ⟨_, rfl⟩
              obtain ⟨a2, ha2⟩ : ∃ a2, s = a2 := ⟨_, rfl⟩
              have PT : PS w0 wt F5 b a2 B a2 ad5 c5 := by rw [← hwt, ← hF5, ← hd5, ← hc5, ← ha2]; exact HP.out
              rw [hwt] at XT hdk
              rw [hwt]
              clear hwt hF5 hd5 hc5 ha2 y0 y1 y2 y3
              have HPT := Hid_of PT
              have HXT := Hid_of XT
              have HPM : Hid (∀ W, Below wt.heap.size wt W → Calls Try.prog 17 #[.pointer (some ⟨b, 0, none⟩)] W fun e w' => e = .returned (bV a2.p) ∧ Below W.heap.size W w') := fun W hW => (HPT.out.keep hW).pa.promised
              have HBS : Hid (∀ W, Below wt.heap.size wt W → Calls Try.prog 18 #[.pointer (some ⟨b, 0, none⟩)] W fun e w' => e = .returned (.int .i64 a2.base) ∧ w' = W) := fun W hW => (HPT.out.keep hW).pa.base
              have HVT := Hid_of (fun W (hW : Below wt.heap.size wt W) => (HPT.out.keep hW).pa.votes x.s)
              have HRV := Hid_of (fun W (hW : Below wt.heap.size wt W) => rvotes_any a2 ad5 c5 x.s W (HPT.out.keep hW).xb.xl HPT.out.ln)
              have HLE : Hid ((M.vts a2.l x.s).length ≤ 1000000) := Hid_of (by have := M.vts_le a2.l x.s; have := HPT.out.ln; omega)
              have HS : Hid (∀ w', Below wt.heap.size wt w' → (w'.cell? ⟨B, 0, none⟩ = some (.int .i64 a2.p.i) ∧ w'.cell? ⟨B, 1, none⟩ = some (.int .i64 a2.p.t) ∧ w'.cell? ⟨B, 2, none⟩ = some (.int .i64 a2.base) ∧ w'.cell? ⟨B, 3, none⟩ = some (.slice ad5 a2.l.length c5)) ∧ w'.cell? ⟨bx, 0, none⟩ = some (.int .i64 x.s)) := fun w' hb => ⟨(row4 (bel_row HPT.out.bx.row hb)).1, (row4 (bel_row HXT.out hb)).1.1⟩
              have hne := ne28 a2.p.i a2.p.t
              clear PT XT
              go_wp2_with fail
              refine wp_region_held_drew (S := fun wq => Below (wt).heap.size (wt) wq) (by kernel_rfl) (Below.drew (Below.refl _ _)) (fun hHeld => ?_)
              refine wpAnyH_take (i := 0) (oi := ?p0d) (v := ?v0d) ?o0d (by kernel_rfl) (by kernel_rfl) (by kernel_rfl) ?q0d ?y0d hHeld ?r0d
              case o0d => simp only [List.getElem?_toArray, List.getElem?_cons_zero]; rfl
              case q0d => exact fun _ _ _ h => h
              case y0d => (refine Or.inl ⟨rfl, ?_⟩; intro wq hq; obtain ⟨⟨z0, z1, z2, z3⟩, y0⟩ := HS.out wq hq; go_simp; try with_reducible rfl)
              simp only [Act.put, List.setIfInBounds_toArray, List.set_cons_zero, List.set_cons_succ]
              refine wpAnyH_take (i := 1) (oi := ?p1d) (v := ?v1d) ?o1d (by kernel_rfl) (by kernel_rfl) (by kernel_rfl) ?q1d ?y1d hHeld ?r1d
              case o1d => simp only [List.getElem?_toArray, List.getElem?_cons_succ, List.getElem?_cons_zero]; rfl
              case q1d => exact fun _ _ _ h => h
              case y1d => (refine Or.inl ⟨rfl, ?_⟩; intro wq hq; obtain ⟨⟨z0, z1, z2, z3⟩, y0⟩ := HS.out wq hq; go_simp; try with_reducible rfl)
              simp only [Act.put, List.setIfInBounds_toArray, List.set_cons_zero, List.set_cons_succ]
              refine wpAnyH_take (i := 2) (oi := ?p2d) (v := ?v2d) ?o2d (by kernel_rfl) (by kernel_rfl) (by kernel_rfl) ?q2d ?y2d hHeld ?r2d
              case o2d => simp only [List.getElem?_toArray, List.getElem?_cons_succ, List.getElem?_cons_zero]; rfl
              case q2d => exact fun _ _ _ h => h
              case y2d => (refine Or.inl ⟨rfl, ?_⟩; intro wq hq; obtain ⟨⟨z0, z1, z2, z3⟩, y0⟩ := HS.out wq hq; go_simp; try with_reducible rfl)
              simp only [Act.put, List.setIfInBounds_toArray, List.set_cons_zero, List.set_cons_succ]
              refine wpAnyH_take (i := 3) (oi := ?p3d) (v := ?v3d) ?o3d (by kernel_rfl) (by kernel_rfl) (by kernel_rfl) ?q3d ?y3d hHeld ?r3d
              case o3d => simp only [List.getElem?_toArray, List.getElem?_cons_succ, List.getElem?_cons_zero]; rfl
              case q3d => exact fun _ _ _ h => h
              case y3d => (refine Or.inl ⟨rfl, ?_⟩; intro wq hq; obtain ⟨⟨z0, z1, z2, z3⟩, y0⟩ := HS.out wq hq; go_simp; try with_reducible rfl)
              simp only [Act.put, List.setIfInBounds_toArray, List.set_cons_zero, List.set_cons_succ]
              refine wpAnyH_take (i := 5) (oi := ?p5d) (v := ?v5d) ?o5d (by kernel_rfl) (by kernel_rfl) (by kernel_rfl) ?q5d ?y5d hHeld ?r5d
              case o5d => simp only [List.getElem?_toArray, List.getElem?_cons_succ, List.getElem?_cons_zero]; rfl
              case q5d => exact fun _ _ _ h => h
              case y5d => (refine Or.inl ⟨rfl, ?_⟩; intro wq hq; obtain ⟨⟨z0, z1, z2, z3⟩, y0⟩ := HS.out wq hq; go_simp; try with_reducible rfl)
              simp only [Act.put, List.setIfInBounds_toArray, List.set_cons_zero, List.set_cons_succ]
              refine wpAnyH_take (i := 6) (oi := ?p6d) (v := ?v6d) ?o6d (by kernel_rfl) (by kernel_rfl) (by kernel_rfl) ?q6d ?y6d hHeld ?r6d
              case o6d => simp only [List.getElem?_toArray, List.getElem?_cons_succ, List.getElem?_cons_zero]; rfl
              case q6d => exact fun _ _ _ h => h
              case y6d => (refine Or.inl ⟨rfl, ?_⟩; intro wq hq; obtain ⟨⟨z0, z1, z2, z3⟩, y0⟩ := HS.out wq hq; go_simp; try with_reducible rfl)
              simp only [Act.put, List.setIfInBounds_toArray, List.set_cons_zero, List.set_cons_succ]
              refine wpAnyH_ready (rs := [4]) (by kernel_rfl) (by simp) ?_
              refine AllReadyH.cons (o := ?p4d) ?o4d ?s4d AllReadyH.nil
              case o4d => simp only [List.getElem?_toArray, List.getElem?_cons_succ, List.getElem?_cons_zero]; rfl
              intro K hK
              go_simp
              refine (HPM.out _ hHeld).mono ?_
              rintro e v4 ⟨rfl, hb4⟩
              have B4 : Below wt.heap.size wt v4 := hHeld.trans (hb4.mono hHeld.size)
              refine hK.out _ _ B4 (fun hHeld => ?_)
              clear hK K
              refine wpAnyH_take (i := 7) (oi := ?p7d) (v := ?v7d) ?o7d (by kernel_rfl) (by kernel_rfl) (by kernel_rfl) ?q7d ?y7d hHeld ?r7d
              case o7d => simp only [List.getElem?_toArray, List.getElem?_cons_succ, List.getElem?_cons_zero]; rfl
              case q7d => exact fun _ _ _ h => h
              case y7d => (refine Or.inl ⟨rfl, ?_⟩; intro wq hq; obtain ⟨⟨z0, z1, z2, z3⟩, y0⟩ := HS.out wq hq; go_simp; try with_reducible rfl)
              simp only [Act.put, List.setIfInBounds_toArray, List.set_cons_zero, List.set_cons_succ]
              refine wpAnyH_take (i := 8) (oi := ?p8d) (v := ?v8d) ?o8d (by kernel_rfl) (by kernel_rfl) (by kernel_rfl) ?q8d ?y8d hHeld ?r8d
              case o8d => simp only [List.getElem?_toArray, List.getElem?_cons_succ, List.getElem?_cons_zero]; rfl
              case q8d => exact fun _ _ _ h => h
              case y8d => (refine Or.inl ⟨rfl, ?_⟩; intro wq hq; obtain ⟨⟨z0, z1, z2, z3⟩, y0⟩ := HS.out wq hq; go_simp; try with_reducible rfl)
              simp only [Act.put, List.setIfInBounds_toArray, List.set_cons_zero, List.set_cons_succ]
              refine wpAnyH_take (i := 9) (oi := ?p9d) (v := ?v9d) ?o9d (by kernel_rfl) (by kernel_rfl) (by kernel_rfl) ?q9d ?y9d hHeld ?r9d
              case o9d => simp only [List.getElem?_toArray, List.getElem?_cons_succ, List.getElem?_cons_zero]; rfl
              case q9d => exact fun _ _ _ h => h
              case y9d => (refine Or.inl ⟨rfl, ?_⟩; intro wq hq; obtain ⟨⟨z0, z1, z2, z3⟩, y0⟩ := HS.out wq hq; go_simp; try with_reducible rfl)
              simp only [Act.put, List.setIfInBounds_toArray, List.set_cons_zero, List.set_cons_succ]
              refine wpAnyH_take (i := 10) (oi := ?p10d) (v := ?v10d) ?o10d (by kernel_rfl) (by kernel_rfl) (by kernel_rfl) ?q10d ?y10d hHeld ?r10d
              case o10d => simp only [List.getElem?_toArray, List.getElem?_cons_succ, List.getElem?_cons_zero]; rfl
              case q10d => exact fun _ _ _ h => h
              case y10d => (refine Or.inl ⟨rfl, ?_⟩; intro wq hq; obtain ⟨⟨z0, z1, z2, z3⟩, y0⟩ := HS.out wq hq; go_simp; try with_reducible rfl)
              simp only [Act.put, List.setIfInBounds_toArray, List.set_cons_zero, List.set_cons_succ]
              refine wpAnyH_take (i := 12) (oi := ?p12d) (v := ?v12d) ?o12d (by kernel_rfl) (by kernel_rfl) (by kernel_rfl) ?q12d ?y12d hHeld ?r12d
              case o12d => simp only [List.getElem?_toArray, List.getElem?_cons_succ, List.getElem?_cons_zero]; rfl
              case q12d => exact fun _ _ _ h => h
              case y12d => (refine Or.inl ⟨rfl, ?_⟩; intro wq hq; obtain ⟨⟨z0, z1, z2, z3⟩, y0⟩ := HS.out wq hq; go_simp; try with_reducible rfl)
              simp only [Act.put, List.setIfInBounds_toArray, List.set_cons_zero, List.set_cons_succ]
              refine wpAnyH_take (i := 13) (oi := ?p13d) (v := ?v13d) ?o13d (by kernel_rfl) (by kernel_rfl) (by kernel_rfl) ?q13d ?y13d hHeld ?r13d
              case o13d => simp only [List.getElem?_toArray, List.getElem?_cons_succ, List.getElem?_cons_zero]; rfl
              case q13d => exact fun _ _ _ h => h
              case y13d => (refine Or.inl ⟨rfl, ?_⟩; intro wq hq; obtain ⟨⟨z0, z1, z2, z3⟩, y0⟩ := HS.out wq hq; go_simp; try with_reducible rfl)
              simp only [Act.put, List.setIfInBounds_toArray, List.set_cons_zero, List.set_cons_succ]
              refine wpAnyH_ready (rs := [11]) (by kernel_rfl) (by simp) ?_
              refine AllReadyH.cons (o := ?p11d) ?o11d ?s11d AllReadyH.nil
              case o11d => simp only [List.getElem?_toArray, List.getElem?_cons_succ, List.getElem?_cons_zero]; rfl
              intro K hK
              go_simp
              refine (HBS.out _ hHeld).mono ?_
              rintro e v11 ⟨rfl, rfl⟩
              refine hK.out _ _ hHeld (fun hHeld => ?_)
              clear hK K
              refine wpAnyH_take (i := 14) (oi := ?p14d) (v := ?v14d) ?o14d (by kernel_rfl) (by kernel_rfl) (by kernel_rfl) ?q14d ?y14d hHeld ?r14d
              case o14d => simp only [List.getElem?_toArray, List.getElem?_cons_succ, List.getElem?_cons_zero]; rfl
              case q14d => exact fun _ _ _ h => h
              case y14d => (refine Or.inl ⟨rfl, ?_⟩; intro wq hq; obtain ⟨⟨z0, z1, z2, z3⟩, y0⟩ := HS.out wq hq; go_simp; try with_reducible rfl)
              simp only [Act.put, List.setIfInBounds_toArray, List.set_cons_zero, List.set_cons_succ]
              refine wpAnyH_take (i := 15) (oi := ?p15d) (v := ?v15d) ?o15d (by kernel_rfl) (by kernel_rfl) (by kernel_rfl) ?q15d ?y15d hHeld ?r15d
              case o15d => simp only [List.getElem?_toArray, List.getElem?_cons_succ, List.getElem?_cons_zero]; rfl
              case q15d => exact fun _ _ _ h => h
              case y15d => (refine Or.inl ⟨rfl, ?_⟩; intro wq hq; obtain ⟨⟨z0, z1, z2, z3⟩, y0⟩ := HS.out wq hq; go_simp; try with_reducible rfl)
              simp only [Act.put, List.setIfInBounds_toArray, List.set_cons_zero, List.set_cons_succ]
              refine wpAnyH_take (i := 16) (oi := ?p16d) (v := ?v16d) ?o16d (by kernel_rfl) (by kernel_rfl) (by kernel_rfl) ?q16d ?y16d hHeld ?r16d
              case o16d => simp only [List.getElem?_toArray, List.getElem?_cons_succ, List.getElem?_cons_zero]; rfl
              case q16d => exact fun _ _ _ h => h
              case y16d => (refine Or.inl ⟨rfl, ?_⟩; intro wq hq; obtain ⟨⟨z0, z1, z2, z3⟩, y0⟩ := HS.out wq hq; go_simp; try with_reducible rfl)
              simp only [Act.put, List.setIfInBounds_toArray, List.set_cons_zero, List.set_cons_succ]
              refine wpAnyH_take (i := 17) (oi := ?p17d) (v := ?v17d) ?o17d (by kernel_rfl) (by kernel_rfl) (by kernel_rfl) ?q17d ?y17d hHeld ?r17d
              case o17d => simp only [List.getElem?_toArray, List.getElem?_cons_succ, List.getElem?_cons_zero]; rfl
              case q17d => exact fun _ _ _ h => h
              case y17d => (refine Or.inl ⟨rfl, ?_⟩; intro wq hq; obtain ⟨⟨z0, z1, z2, z3⟩, y0⟩ := HS.out wq hq; go_simp; try with_reducible rfl)
              simp only [Act.put, List.setIfInBounds_toArray, List.set_cons_zero, List.set_cons_succ]
              refine wpAnyH_take (i := 18) (oi := ?p18d) (v := ?v18d) ?o18d (by kernel_rfl) (by kernel_rfl) (by kernel_rfl) ?q18d ?y18d hHeld ?r18d
              case o18d => simp only [List.getElem?_toArray, List.getElem?_cons_succ, List.getElem?_cons_zero]; rfl
              case q18d => exact fun _ _ _ h => h
              case y18d => (refine Or.inl ⟨rfl, ?_⟩; intro wq hq; obtain ⟨⟨z0, z1, z2, z3⟩, y0⟩ := HS.out wq hq; go_simp; try with_reducible rfl)
              simp only [Act.put, List.setIfInBounds_toArray, List.set_cons_zero, List.set_cons_succ]
              refine wpAnyH_take (i := 19) (oi := ?p19d) (v := ?v19d) ?o19d (by kernel_rfl) (by kernel_rfl) (by kernel_rfl) ?q19d ?y19d hHeld ?r19d
              case o19d => simp only [List.getElem?_toArray, List.getElem?_cons_succ, List.getElem?_cons_zero]; rfl
              case q19d => exact fun _ _ _ h => h
              case y19d => (refine Or.inl ⟨rfl, ?_⟩; intro wq hq; obtain ⟨⟨z0, z1, z2, z3⟩, y0⟩ := HS.out wq hq; go_simp; try with_reducible rfl)
              simp only [Act.put, List.setIfInBounds_toArray, List.set_cons_zero, List.set_cons_succ]
              refine wpAnyH_take (i := 21) (oi := ?p21d) (v := ?v21d) ?o21d (by kernel_rfl) (by kernel_rfl) (by kernel_rfl) ?q21d ?y21d hHeld ?r21d
              case o21d => simp only [List.getElem?_toArray, List.getElem?_cons_succ, List.getElem?_cons_zero]; rfl
              case q21d => exact fun _ _ _ h => h
              case y21d => (refine Or.inl ⟨rfl, ?_⟩; intro wq hq; obtain ⟨⟨z0, z1, z2, z3⟩, y0⟩ := HS.out wq hq; go_simp; try with_reducible rfl)
              simp only [Act.put, List.setIfInBounds_toArray, List.set_cons_zero, List.set_cons_succ]
              refine wpAnyH_take (i := 22) (oi := ?p22d) (v := ?v22d) ?o22d (by kernel_rfl) (by kernel_rfl) (by kernel_rfl) ?q22d ?y22d hHeld ?r22d
              case o22d => simp only [List.getElem?_toArray, List.getElem?_cons_succ, List.getElem?_cons_zero]; rfl
              case q22d => exact fun _ _ _ h => h
              case y22d => (refine Or.inl ⟨rfl, ?_⟩; intro wq hq; obtain ⟨⟨z0, z1, z2, z3⟩, y0⟩ := HS.out wq hq; go_simp; try with_reducible rfl)
              simp only [Act.put, List.setIfInBounds_toArray, List.set_cons_zero, List.set_cons_succ]
              refine wpAnyH_take (i := 23) (oi := ?p23d) (v := ?v23d) ?o23d (by kernel_rfl) (by kernel_rfl) (by kernel_rfl) ?q23d ?y23d hHeld ?r23d
              case o23d => simp only [List.getElem?_toArray, List.getElem?_cons_succ, List.getElem?_cons_zero]; rfl
              case q23d => exact fun _ _ _ h => h
              case y23d => (refine Or.inl ⟨rfl, ?_⟩; intro wq hq; obtain ⟨⟨z0, z1, z2, z3⟩, y0⟩ := HS.out wq hq; go_simp; try with_reducible rfl)
              simp only [Act.put, List.setIfInBounds_toArray, List.set_cons_zero, List.set_cons_succ]
              refine wpAnyH_ready (rs := [20]) (by kernel_rfl) (by simp) ?_
              refine AllReadyH.cons (o := ?p20d) ?o20d ?s20d AllReadyH.nil
              case o20d => simp only [List.getElem?_toArray, List.getElem?_cons_succ, List.getElem?_cons_zero]; rfl
              intro K hK
              go_simp
              refine (HVT.out _ hHeld).mono ?_
              rintro e v20 ⟨a20, c20, rfl, hx20, _, hb20⟩
              have B20 : Below wt.heap.size wt v20 := hHeld.trans (hb20.mono hHeld.size)
              refine hK.out _ _ B20 (fun hHeld => ?_)
              clear hK K
              refine wpAnyH_ready (rs := [24]) (by kernel_rfl) (by simp) ?_
              refine AllReadyH.cons (o := ?p24d) ?o24d ?s24d AllReadyH.nil
              case o24d => simp only [List.getElem?_toArray, List.getElem?_cons_succ, List.getElem?_cons_zero]; rfl
              intro K hK
              go_simp
              refine (HRV.out _ hHeld).mono ?_
              rintro e v24 hrv
              obtain ⟨a24, c24, rfl, hx24, _, hb24⟩ := hrv.mono
              have B24 : Below wt.heap.size wt v24 := hHeld.trans (hb24.mono hHeld.size)
              refine hK.out _ _ B24 (fun hHeld => ?_)
              clear hK K
              refine wpAnyH_ready (rs := [25]) (by kernel_rfl) (by simp) ?_
              refine AllReadyH.cons (o := ?p25d) ?o25d ?s25d AllReadyH.nil
              case o25d => simp only [List.getElem?_toArray, List.getElem?_cons_succ, List.getElem?_cons_zero]; rfl
              intro K hK
              go_simp
              refine (same_any a20 c20 a24 c24 _ _ (HLE.out) (hx20.at'.keep hb24) hx24.at').mono ?_
              rintro e v25 ⟨rfl, hb25⟩
              have B25 : Below wt.heap.size wt v25 := hHeld.trans (hb25.mono hHeld.size)
              refine hK.out _ _ B25 (fun hHeld => ?_)
              clear hK K
              refine wpAnyH_take (i := 26) (oi := ?p26d) (v := ?v26d) ?o26d (by kernel_rfl) (by kernel_rfl) (by kernel_rfl) ?q26d ?y26d hHeld ?r26d
              case o26d => simp only [List.getElem?_toArray, List.getElem?_cons_succ, List.getElem?_cons_zero]; rfl
              case q26d => exact fun _ _ _ h => h
              case y26d => (refine Or.inl ⟨rfl, ?_⟩; intro wq hq; obtain ⟨⟨z0, z1, z2, z3⟩, y0⟩ := HS.out wq hq; go_simp; try with_reducible rfl)
              simp only [Act.put, List.setIfInBounds_toArray, List.set_cons_zero, List.set_cons_succ]
              refine wpAnyH_take (i := 27) (oi := ?p27d) (v := ?v27d) ?o27d (by kernel_rfl) (by kernel_rfl) (by kernel_rfl) ?q27d ?y27d hHeld ?r27d
              case o27d => simp only [List.getElem?_toArray, List.getElem?_cons_succ, List.getElem?_cons_zero]; rfl
              case q27d => exact fun _ _ _ h => h
              case y27d => (refine Or.inl ⟨rfl, ?_⟩; intro wq hq; obtain ⟨⟨z0, z1, z2, z3⟩, y0⟩ := HS.out wq hq; go_simp; try with_reducible rfl)
              simp only [Act.put, List.setIfInBounds_toArray, List.set_cons_zero, List.set_cons_succ]
              refine wpAnyH_done (by kernel_rfl) ?_ _
              have HPF := Hid_of (HPT.out.keep hHeld)
              clear hHeld HPM HBS HVT HRV HS HPT
              go_wp2
              go_roundw
              case rel => exact ⟨k + 1, F5, a2, ad5, c5, by omega, by go_num, HPF.out⟩
              case measure => simp [intOf]; omega
      · obtain rfl : k = l.length := by omega
        have HP := Hid_of hP
        have HVT : Hid (∀ W, Below wr.heap.size wr W → Calls Try.prog 19 #[.pointer (some ⟨b, 0, none⟩), .int .i64 0] W fun e w' => ∃ ad c, e = .returned (.slice ad s.l.length c) ∧ XL vl w' ad c s.l ∧ (∀ j, blk ad j → W.heap.size ≤ j ∧ j < w'.heap.size) ∧ Below W.heap.size W w') := fun W hW => by
          have h := (HP.out.keep hW).pa.votes 0
          rw [HP.out.pa.ok.all] at h
          exact h
        have HLE : Hid (s.l.length ≤ 1000000) := Hid_of (by have := HP.out.ln; omega)
        have HS : Hid (∀ w', Below wr.heap.size wr w' → (w'.cell? ⟨B, 0, none⟩ = some (.int .i64 s.p.i) ∧ w'.cell? ⟨B, 1, none⟩ = some (.int .i64 s.p.t) ∧ w'.cell? ⟨B, 2, none⟩ = some (.int .i64 s.base) ∧ w'.cell? ⟨B, 3, none⟩ = some (.slice ad s.l.length c))) := fun w' hb => (row4 (bel_row HP.out.bx.row hb)).1
        clear hP
        go_wp2_with fail
        refine wp_region_held_drew (S := fun wq => Below (wr).heap.size (wr) wq) (by kernel_rfl) (Below.drew (Below.refl _ _)) (fun hHeld => ?_)
        refine wpAnyH_take (i := 0) (oi := ?p0e) (v := ?v0e) ?o0e (by kernel_rfl) (by kernel_rfl) (by kernel_rfl) ?q0e ?y0e hHeld ?r0e
        case o0e => simp only [List.getElem?_toArray, List.getElem?_cons_zero]; rfl
        case q0e => exact fun _ _ _ h => h
        case y0e => (refine Or.inl ⟨rfl, ?_⟩; intro wq hq; obtain ⟨z0, z1, z2, z3⟩ := HS.out wq hq; go_simp; try with_reducible rfl)
        simp only [Act.put, List.setIfInBounds_toArray, List.set_cons_zero, List.set_cons_succ]
        refine wpAnyH_take (i := 2) (oi := ?p2e) (v := ?v2e) ?o2e (by kernel_rfl) (by kernel_rfl) (by kernel_rfl) ?q2e ?y2e hHeld ?r2e
        case o2e => simp only [List.getElem?_toArray, List.getElem?_cons_succ, List.getElem?_cons_zero]; rfl
        case q2e => exact fun _ _ _ h => h
        case y2e => (refine Or.inl ⟨rfl, ?_⟩; intro wq hq; obtain ⟨z0, z1, z2, z3⟩ := HS.out wq hq; go_simp; try with_reducible rfl)
        simp only [Act.put, List.setIfInBounds_toArray, List.set_cons_zero, List.set_cons_succ]
        refine wpAnyH_take (i := 3) (oi := ?p3e) (v := ?v3e) ?o3e (by kernel_rfl) (by kernel_rfl) (by kernel_rfl) ?q3e ?y3e hHeld ?r3e
        case o3e => simp only [List.getElem?_toArray, List.getElem?_cons_succ, List.getElem?_cons_zero]; rfl
        case q3e => exact fun _ _ _ h => h
        case y3e => (refine Or.inl ⟨rfl, ?_⟩; intro wq hq; obtain ⟨z0, z1, z2, z3⟩ := HS.out wq hq; go_simp; try with_reducible rfl)
        simp only [Act.put, List.setIfInBounds_toArray, List.set_cons_zero, List.set_cons_succ]
        refine wpAnyH_ready (rs := [1]) (by kernel_rfl) (by simp) ?_
        refine AllReadyH.cons (o := ?p1e) ?o1e ?s1e AllReadyH.nil
        case o1e => simp only [List.getElem?_toArray, List.getElem?_cons_succ, List.getElem?_cons_zero]; rfl
        intro K hK
        go_simp
        refine (HVT.out _ hHeld).mono ?_
        rintro e v1 ⟨a1, c1, rfl, hx1, _, hb1⟩
        have B1 : Below wr.heap.size wr v1 := hHeld.trans (hb1.mono hHeld.size)
        refine hK.out _ _ B1 (fun hHeld => ?_)
        clear hK K
        refine wpAnyH_ready (rs := [4]) (by kernel_rfl) (by simp) ?_
        refine AllReadyH.cons (o := ?p4e) ?o4e ?s4e AllReadyH.nil
        case o4e => simp only [List.getElem?_toArray, List.getElem?_cons_succ, List.getElem?_cons_zero]; rfl
        intro K hK
        go_simp
        refine (same_any a1 c1 ad c _ _ HLE.out hx1.at' (HP.out.keep B1).xb.xl.at').mono ?_
        rintro e v4 ⟨rfl, hb4⟩
        have B4 : Below wr.heap.size wr v4 := hHeld.trans (hb4.mono hHeld.size)
        refine hK.out _ _ B4 (fun hHeld => ?_)
        clear hK K
        refine wpAnyH_take (i := 5) (oi := ?p5e) (v := ?v5e) ?o5e (by kernel_rfl) (by kernel_rfl) (by kernel_rfl) ?q5e ?y5e hHeld ?r5e
        case o5e => simp only [List.getElem?_toArray, List.getElem?_cons_succ, List.getElem?_cons_zero]; rfl
        case q5e => exact fun _ _ _ h => h
        case y5e => (refine Or.inl ⟨rfl, ?_⟩; intro wq hq; obtain ⟨z0, z1, z2, z3⟩ := HS.out wq hq; go_simp; try with_reducible rfl)
        simp only [Act.put, List.setIfInBounds_toArray, List.set_cons_zero, List.set_cons_succ]
        refine wpAnyH_ready (rs := [6]) (by kernel_rfl) (by simp) ?_
        refine AllReadyH.cons (o := ?p6e) ?o6e ?s6e AllReadyH.nil
        case o6e => simp only [List.getElem?_toArray, List.getElem?_cons_succ, List.getElem?_cons_zero]; rfl
        intro K hK
        go_simp
        refine (awake_any _).mono ?_
        rintro e v6 ⟨rfl, hb6⟩
        have B6 : Below wr.heap.size wr v6 := hHeld.trans (hb6.mono hHeld.size)
        refine hK.out _ _ B6 (fun hHeld => ?_)
        clear hK K
        refine wpAnyH_take (i := 7) (oi := ?p7e) (v := ?v7e) ?o7e (by kernel_rfl) (by kernel_rfl) (by kernel_rfl) ?q7e ?y7e hHeld ?r7e
        case o7e => simp only [List.getElem?_toArray, List.getElem?_cons_succ, List.getElem?_cons_zero]; rfl
        case q7e => exact fun _ _ _ h => h
        case y7e => (refine Or.inl ⟨rfl, ?_⟩; intro wq hq; obtain ⟨z0, z1, z2, z3⟩ := HS.out wq hq; go_simp; try with_reducible rfl)
        simp only [Act.put, List.setIfInBounds_toArray, List.set_cons_zero, List.set_cons_succ]
        refine wpAnyH_take (i := 8) (oi := ?p8e) (v := ?v8e) ?o8e (by kernel_rfl) (by kernel_rfl) (by kernel_rfl) ?q8e ?y8e hHeld ?r8e
        case o8e => simp only [List.getElem?_toArray, List.getElem?_cons_succ, List.getElem?_cons_zero]; rfl
        case q8e => exact fun _ _ _ h => h
        case y8e => (refine Or.inl ⟨rfl, ?_⟩; intro wq hq; obtain ⟨z0, z1, z2, z3⟩ := HS.out wq hq; go_simp; try with_reducible rfl)
        simp only [Act.put, List.setIfInBounds_toArray, List.set_cons_zero, List.set_cons_succ]
        refine wpAnyH_done (by kernel_rfl) ?_ _
        have HBF := Hid_of (bel_up HP.out.pa.bel hHeld (Nat.le_refl _))
        go_wp2
        go_ret
        exact ⟨rfl, HBF.out⟩
end Go.Proofs.Ytbbadfebajpeaaa
