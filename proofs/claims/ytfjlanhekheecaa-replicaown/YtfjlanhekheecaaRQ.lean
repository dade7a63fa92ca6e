/-
  Is it a node? A vote, to each.
-/
import Derived.Test.YtfjlanhekheecaaRP
namespace Go.Proofs.Ytfjlanhekheecaa
open Go.RowKit Go.Maps
set_option linter.unusedVariables false
open M (E V)
open Rm (NT R)

section
variable {w : World} {b ba bp bl : Nat} {r : R}
theorem isNode_any (h : w.heap[b]? = some (rrow r ba bp bl)) (x : Int) : Calls Try.prog 33 #[ptr b, .int .i64 x] w fun e w' => e = .returned (.bool (Rm.isN r x)) ∧ w' = w := by
  obtain ⟨⟨c0, c1, c2, c3, c4⟩, _⟩ := row5 h
  clear h
  unfold Rm.isN
  by_cases h0 : 0 ≤ x
  · have d0 : decide (0 ≤ x) = true := decide_eq_true h0
    rw [d0, Bool.true_and]
    go_enter Try.func33, Try.ntmps33
    go_wp2
    go_ret
    exact ⟨rfl, rfl⟩
  · have d0 : decide (0 ≤ x) = false := decide_eq_false h0
    rw [d0, Bool.false_and]
    go_enter Try.func33, Try.ntmps33
    go_wp2
    go_ret
    exact ⟨rfl, rfl⟩
/-- What it hands back. -/
def TeOut (w : World) (l : List NT) (e : Ending) (w' : World) : Prop := ∃ u ys, e = .returned u ∧ OW w' w.heap.size u ys ∧ ys.map RN.x = l ∧ Below w.heap.size w w'
set_option maxRecDepth 100000 in
set_option maxHeartbeats 1000000 in
theorem toEach_any (h : w.heap[b]? = some (rrow r ba bp bl)) (h0 : 1 ≤ r.n) (h7 : r.n ≤ 7) (kk : Int) (x : V) (hx : x.v.size ≤ 140737488351232) : Calls Try.prog 32 #[ptr b, .int .i64 kk, vV x] w (TeOut w (Rm.toE r kk x)) := by
  obtain ⟨s, ⟨i, t⟩, v⟩ := x
  obtain ⟨W1, HW1⟩ : ∃ W1, Hid (w.alloc (.cells #[.int .i64 s, .int .i64 i, .int .i64 t, .string v] 42) = W1) := ⟨_, Hid_of rfl⟩
  have hb1 : Below w.heap.size w W1 := by rw [← HW1.out]; exact bel1 w _
  have hr1 : W1.heap[w.heap.size]? = some (.cells #[.int .i64 s, .int .i64 i, .int .i64 t, .string v] 42 (0, 0)) := by rw [← HW1.out]; exact heap_alloc_last w _
  obtain ⟨n, hn⟩ : ∃ n : Nat, r.n = n := ⟨r.n.toNat, by omega⟩
  have HN : Hid (r.n.toNat = n) := Hid_of (by omega)
  have HL : Hid (Rm.toE r kk ⟨s, ⟨i, t⟩, v⟩ = Rm.toF r kk 0 Rm.e0 [⟨s, ⟨i, t⟩, v⟩] n) := Hid_of (by unfold Rm.toE; rw [HN.out])
  have hro := bel_row h hb1
  obtain ⟨⟨c0, c1, c2, c3, c4⟩, _⟩ := row5 hro
  rw [hn] at c0
  have HR := Hid_of hro
  have HX := Hid_of hr1
  have HB1 := Hid_of hb1
  have hn7 : n ≤ 7 := by omega
  have HV := Hid_of hx
  clear h hb1 hr1 hro h0 h7 hx
  simp only [vV]
  go_enter Try.func32, Try.ntmps32
  go_upto_region 1 with fail
  rw [HW1.out]
  clear HW1
  go_wp2_with fail
  go_loopw [7, 14] (fun u q wr => ∃ (j : Nat) (ys : List RN), j ≤ n ∧ q = .int .i64 j ∧ OW wr W1.heap.size u ys ∧ ys.map RN.x = Rm.toF r kk 0 Rm.e0 [⟨s, ⟨i, t⟩, v⟩] j ∧ Below W1.heap.size W1 wr) (fun u q _ => n - (intOf q).toNat)
  case atStart => exact ⟨0, [], Nat.zero_le _, rfl, OW.nil _ _, rfl, Below.refl _ _⟩
  case round =>
    obtain ⟨j, ys, hj, rfl, ho, hm, hbl⟩ := hrel
    have hlen : ys.length = j := by have := congrArg List.length hm; simpa [Rm.toF_len] using this
    by_cases hlt : j < n
    · have hjn : (j : Int) < (n : Int) := by omega
      obtain ⟨⟨p0, p1, p2, p3⟩, _⟩ := row4 (bel_row HX.out hbl)
      have hk1 : IntKind.i64.wrap ((j : Int) + 1) = ((j + 1 : Nat) : Int) := by rw [IntKind.wrap_i64]; omega
      have cv := fun w => sclone_any v w HV.out
      obtain ⟨W2, HW2⟩ : ∃ W2, Hid (wr.alloc (.cells #[.int .i64 s, .int .i64 i, .int .i64 t, .string v] 42) = W2) := ⟨_, Hid_of rfl⟩
      have hb2 : Below wr.heap.size wr W2 := by rw [← HW2.out]; exact bel1 wr _
      have hr2 : W2.heap[wr.heap.size]? = some (.cells #[.int .i64 s, .int .i64 i, .int .i64 t, .string v] 42 (0, 0)) := by rw [← HW2.out]; exact heap_alloc_last wr _
      obtain ⟨⟨x0, x1, x2, x3⟩, xf⟩ := row4 (bel_row (bel_row HX.out hbl) hb2)
      obtain ⟨g, hg⟩ : ∃ g, wr.heap.size = g := ⟨_, rfl⟩
      obtain ⟨a1, c1', hv1, -⟩ := ho.at
      rw [hlen] at hv1
      subst hv1
      have HO := Hid_of ho
      have HM := Hid_of hm
      have HBL := Hid_of hbl
      have HB2 := Hid_of hb2
      have HR2 := Hid_of hr2
      have HLEN := Hid_of hlen
      clear ho hm hbl hb2 hr2 c0 c1 c2 c3 c4 hlen
      go_upto_region 6 with fail
      rw [HW2.out]
      go_wp2_with fail
      refine (cv _).mono ?_
      rintro e w3 ⟨rfl, hb3⟩
      obtain ⟨⟨y0, y1, y2, y3⟩, yf⟩ := row4 (bel_row HR2.out hb3)
      have yf3 := yf 3
      rw [hg] at y0 y1 y2 y3 yf3
      clear cv x0 x1 x2 x3 xf yf
      go_upto_region 7 with fail
      have hB3 : Below wr.heap.size wr (w3.setCell ⟨g, 3, none⟩ (.string v)) := (bel_up HB2.out hb3 (Nat.le_refl _)).setCell (by show wr.heap.size ≤ g; omega) _
      have hg3 : (w3.setCell ⟨g, 3, none⟩ (.string v)).heap[g]? = some (.cells #[.int .i64 s, .int .i64 i, .int .i64 t, .string v] 42 (0, 0)) := by
        have := heap_setCell_same w3 g 3 _ _ (.string v) (by rw [← hg]; exact bel_row HR2.out hb3)
        rw [this]; rfl
      clear y0 y1 y2 y3 yf3 hb3
      generalize w3.setCell ⟨g, 3, none⟩ (.string v) = W3 at *
      have hb3' := bel_row (bel_row HR.out HBL.out) hB3
      obtain ⟨SQ, HSQ⟩ : ∃ SQ : World → Prop, Hid (SQ = fun wq => wq.heap[b]? = some (rrow r ba bp bl) ∧ wq.heap[g]? = some (.cells #[.int .i64 s, .int .i64 i, .int .i64 t, .string v] 42 (0, 0))) := ⟨_, Hid_of rfl⟩
      have HS : Hid (∀ wq, SQ wq → (wq.cell? ⟨b, 0, none⟩ = some (.int .i64 r.n) ∧ wq.cell? ⟨b, 1, none⟩ = some (.int .i64 r.me) ∧ wq.cell? ⟨b, 2, none⟩ = some (ptr ba) ∧ wq.cell? ⟨b, 3, none⟩ = some (ptr bp) ∧ wq.cell? ⟨b, 4, none⟩ = some (ptr bl)) ∧ (wq.cell? ⟨g, 0, none⟩ = some (.int .i64 s) ∧ wq.cell? ⟨g, 1, none⟩ = some (.int .i64 i) ∧ wq.cell? ⟨g, 2, none⟩ = some (.int .i64 t) ∧ wq.cell? ⟨g, 3, none⟩ = some (.string v))) := fun wq hq => by
        rw [HSQ.out] at hq
        exact ⟨(row5 hq.1).1, (row4 hq.2).1⟩
      have SK : Hid (∀ w', Below W3.heap.size W3 w' → SQ w') := fun w' hw' => by
        rw [HSQ.out]
        exact ⟨bel_row hb3' hw', bel_row hg3 hw'⟩
      have HSI : Hid (SQ W3.drew) := SK.out _ (Below.drew (Below.refl _ _))
      have hbw1 : b < W1.heap.size := (Array.getElem?_eq_some_iff.1 HR.out).1
      have hgr : wr.heap.size ≤ g := by omega
      have hgv0 : ∀ q, (Value.slice a1 j c1').ownBlock = some q → W1.heap.size ≤ q ∧ q < wr.heap.size := fun q hq => HO.out.own.lt hq
      have HAP : Hid (∀ wv gv, Below W3.heap.size W3 wv → W3.heap.size ≤ gv → wv.heap[gv]? = some (.cells #[.int .i64 s, .int .i64 i, .int .i64 t, .string v] 42 (0, 0)) → ∃ a' c' w', (∀ ty, (Builtin.append_ #[28, 28] ty #[.slice a1 j c1', .slice (some ⟨wv.heap.size, 0, none⟩) 1 1]).run Try.prog (wv.alloc (.cells (nl.cs ⟨⟨kk, r.me, (j : Int), 0, ⟨0, 0⟩, [⟨s, ⟨i, t⟩, v⟩]⟩, some ⟨gv, 0, none⟩, 1⟩).toArray 32)) = .ok (.slice a' (j + 1) c') w') ∧ OW w' W1.heap.size (.slice a' (j + 1) c') (ys ++ [⟨⟨kk, r.me, (j : Int), 0, ⟨0, 0⟩, [⟨s, ⟨i, t⟩, v⟩]⟩, some ⟨gv, 0, none⟩, 1⟩]) ∧ Rw wv (.slice a1 j c1') w' (.slice a' (j + 1) c')) := fun wv gv hwv hgv hrv => by
        have hbw : Below wr.heap.size wr wv := bel_up hB3 hwv (Nat.le_refl _)
        have hs3 := hB3.size
        have hs4 := HBL.out.size
        have := (HO.out.keep hbw).app1 ⟨⟨kk, r.me, (j : Int), 0, ⟨0, 0⟩, [⟨s, ⟨i, t⟩, v⟩]⟩, some ⟨gv, 0, none⟩, 1⟩ ⟨⟨atL_one (t := 42) hrv, Nat.le_refl _, (show 1 ≤ maxLen by decide), fun e => by cases e⟩, fun q hq => by
          obtain ⟨o, z, e⟩ := hq
          simp only [Option.some.injEq, Addr.mk.injEq] at e
          obtain ⟨rfl, -, -⟩ := e
          exact ⟨(Array.getElem?_eq_some_iff.1 hrv).1, by omega, fun e => by have := (hgv0 _ e).2; omega⟩⟩ (by have := hbw.size; omega) (by rw [HLEN.out]; omega)
        rw [HLEN.out] at this
        exact this
      have SK4 : Hid (∀ w4 wv a' c', Below W3.heap.size W3 wv → Rw wv (.slice a1 j c1') w4 (.slice a' (j + 1) c') → SQ w4 ∧ Below W1.heap.size W1 w4) := fun w4 wv a' c' hwv hr => by
        have hbw : Below wr.heap.size wr wv := bel_up hB3 hwv (Nat.le_refl _)
        have hs3 := hB3.size
        have hs4 := HBL.out.size
        have h1 := bel_row hb3' hwv
        have h2 := bel_row hg3 hwv
        refine ⟨?_, (HBL.out.trans (hbw.mono hs4)).trans ((hr.below (fun k hk => (hgv0 k hk).1) (Nat.le_trans hs4 hbw.size)))⟩
        rw [HSQ.out]
        exact ⟨(hr.g.block b (Array.getElem?_eq_some_iff.1 h1).1 (fun e => by have := (hgv0 _ e.symm).1; omega)).trans h1, (hr.g.block g (Array.getElem?_eq_some_iff.1 h2).1 (fun e => by have := (hgv0 _ e.symm).2; omega)).trans h2⟩
      clear hb3' hg3 HSQ
      refine wp_region_held_drew (S := fun wq => SQ wq) (by kernel_rfl) HSI.out (fun hHeld => ?_)
      obtain ⟨wdx, hwdx⟩ : ∃ wd, W3.drew = wd := ⟨_, rfl⟩
      have hBwd : Below W3.heap.size W3 wdx := by rw [← hwdx]; exact Below.drew (Below.refl _ _)
      rw [hwdx] at hHeld ⊢
      clear hwdx
      refine Tm 0 ?p0x ?v0x hHeld ?r0x
      refine Tm 1 ?p1x ?v1x hHeld ?r1x
      refine Tm 2 ?p2x ?v2x hHeld ?r2x
      refine Tm 3 ?p3x ?v3x hHeld ?r3x
      refine Tm 4 ?p4x ?v4x hHeld ?r4x
      refine Tk 5 ?p5x ?v5x ?y5x hHeld ?r5x
      case y5x => intro wq hq; obtain ⟨⟨b0, b1, b2, b3, b4⟩, ⟨d0, d1, d2, d3⟩⟩ := HS.out wq hq; go_simp; try with_reducible rfl
      refine Tm 6 ?p6x ?v6x hHeld ?r6x
      refine Tk 7 ?p7x ?v7x ?y7x hHeld ?r7x
      case y7x => intro wq hq; obtain ⟨⟨b0, b1, b2, b3, b4⟩, ⟨d0, d1, d2, d3⟩⟩ := HS.out wq hq; go_simp; try with_reducible rfl
      simp only [Act.put, Pa, Pb, Pc]
      refine Rd 8 ?p8x ?s8x
      intro K hK
      go_simp
      obtain ⟨wv, hwv⟩ : ∃ wv, wdx.alloc (.cells #[.int .i64 s, .int .i64 i, .int .i64 t, .string v] 42) = wv := ⟨_, rfl⟩
      have hbv : Below wdx.heap.size wdx wv := by rw [← hwv]; exact bel1 _ _
      have hrv : wv.heap[wdx.heap.size]? = some (.cells #[.int .i64 s, .int .i64 i, .int .i64 t, .string v] 42 (0, 0)) := by rw [← hwv]; exact heap_alloc_last _ _
      have hrg := Nat.lt_of_lt_of_le (Array.getElem?_eq_some_iff.1 hrv).1 (Nat.le_refl _)
      obtain ⟨gv, hgv⟩ : ∃ gv, wdx.heap.size = gv := ⟨_, rfl⟩
      rw [hwv]
      rw [hgv] at hrv hrg ⊢
      have hgv' : W3.heap.size ≤ gv := by rw [← hgv]; exact hBwd.size
      have hbv2 : Below W3.heap.size W3 wv := bel_up hBwd hbv (Nat.le_refl _)
      have S8 := SK.out wv hbv2
      clear hwv hgv hbv
      refine hK.out _ _ S8 (fun hHeld => ?_)
      clear hK K
      refine Tm 9 ?p9x_8 ?v9x_8 hHeld ?r9x_8
      simp only [Act.put, Pa, Pb, Pc]
      refine Rd 10 ?p10x_8 ?s10x_8
      intro K hK
      go_simp
      obtain ⟨a', c', w4, hrun, ho4, hr4⟩ := HAP.out wv gv hbv2 hgv' hrv
      have S10 := SK.out (wv.alloc (.cells (nl.cs ⟨⟨kk, r.me, (j : Int), 0, ⟨0, 0⟩, [⟨s, ⟨i, t⟩, v⟩]⟩, some ⟨gv, 0, none⟩, 1⟩).toArray 32)) (bel_up hbv2 (bel1 _ _) (Nat.le_refl _))
      have HO4 := Hid_of ho4
      have HR4 := Hid_of hr4
      clear ho4 hr4
      refine hK.out _ _ S10 (fun hHeld => ?_)
      clear hK K
      refine Rd 11 ?p11x_8_10 ?s11x_8_10
      intro K hK
      refine step_append_known rfl (.tmp 22) (.tmp 32) 28 rfl _ _ rfl rfl _ _ (hrun _) ?_
      refine hK.out _ _ (SK4.out _ _ _ _ hbv2 HR4.out).1 (fun hHeld => ?_)
      clear hK K
      refine Tm 12 ?p12x_8_10_11 ?v12x_8_10_11 hHeld ?r12x_8_10_11
      simp only [Act.put, Pa, Pb, Pc]
      refine wpAnyH_done (by kernel_rfl) ?_ _
      go_wp2_with fail
      go_roundw
      case rel => exact ⟨j + 1, _, by omega, by go_num, HO4.out, by rw [List.map_append, HM.out, Rm.toF_succ]; rfl, (SK4.out _ _ _ _ hbv2 HR4.out).2⟩
      case measure => simp [intOf]; omega

    · obtain rfl : j = n := by omega
      have HQ : Hid (TeOut w (Rm.toE r kk ⟨s, ⟨i, t⟩, v⟩) (.returned u7) wr) := ⟨_, ys, rfl, ho.low HB1.out.size, by rw [HL.out]; exact hm, bel_up HB1.out hbl (Nat.le_refl _)⟩
      clear ho hbl hm c0 c1 c2 c3 c4
      go_wp2
      go_ret
      exact HQ.out
end
end Go.Proofs.Ytfjlanhekheecaa
