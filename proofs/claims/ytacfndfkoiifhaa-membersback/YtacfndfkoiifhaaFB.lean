/-
  The document's Group, New and Swap.
-/
import Derived.Test.YtacfndfkoiifhaaFA
namespace Go.Proofs.Ytacfndfkoiifhaa
open Go.RowKit
set_option linter.unusedVariables false
open Mb (S)

theorem group_any (a : Option Addr) (c : Nat) (l : List Int) (w : World) (hl : l.length ≤ 1000000) (hc : l.length ≤ c) (h : AtL il w a l) : Calls Try.prog 30 #[.slice a l.length c] w fun e w' => e = .returned (.bool (decide (2 ≤ l.length ∧ l.length ≤ 8) && Mb.apB l)) ∧ Below w.heap.size w w' := by
  have hap := refApart_any a c l w hl hc h
  clear h
  by_cases h1 : 2 ≤ l.length
  · have d1 : decide ((2 : Int) ≤ (l.length : Int)) = true := decide_eq_true (by omega)
    by_cases h2 : l.length ≤ 8
    · have d2 : decide ((l.length : Int) ≤ 8) = true := decide_eq_true (by omega)
      rw [show decide (2 ≤ l.length ∧ l.length ≤ 8) = true from decide_eq_true ⟨h1, h2⟩]
      clear h1 h2
      go_enter Try.func30, Try.ntmps30
      go_wp2_with fail
      refine hap.mono ?_
      rintro e w2 ⟨rfl, hb⟩
      have HB := Hid_of hb
      clear hap hb
      go_wp2
      go_ret
      exact ⟨by simp, HB.out⟩
    · have d2 : decide ((l.length : Int) ≤ 8) = false := decide_eq_false (by omega)
      rw [show decide (2 ≤ l.length ∧ l.length ≤ 8) = false from decide_eq_false (fun h => h2 h.2)]
      clear hap h1 h2
      go_enter Try.func30, Try.ntmps30
      go_wp2
      go_ret
      exact ⟨rfl, Below.refl _ _⟩
  · have d1 : decide ((2 : Int) ≤ (l.length : Int)) = false := decide_eq_false (by omega)
    rw [show decide (2 ≤ l.length ∧ l.length ≤ 8) = false from decide_eq_false (fun h => h1 h.1)]
    clear hap h1
    go_enter Try.func30, Try.ntmps30
    go_wp2
    go_ret
    exact ⟨rfl, Below.refl _ _⟩
/-- What the document's deed tells that lays its rows anew. -/
def RDn (w : World) (aL aS : Option Addr) (s' : S) (us : List Value) (e : Ending) (w' : World) : Prop :=
  ∃ aL' cL' aS' cS', e = .returned (.tuple (mV aL' cL' aS' cS' s' :: us).toArray) ∧ XD w' aL' cL' aS' cS' s' ∧ Below w.heap.size w w' ∧ ∀ k, blk aL' k ∨ blk aS' k → (blk aL k ∨ blk aS k) ∨ (w.heap.size ≤ k ∧ k < w'.heap.size)
section
variable {w : World} {aL aS : Option Addr} {cL cS : Nat} {s : S}
set_option maxRecDepth 100000 in
set_option maxHeartbeats 4000000 in
theorem rswapQ_any (q : Bool) (hq : s.fl = q) (h : XD w aL cL aS cS s) (hlow : ∀ k, blk aL k ∨ blk aS k → k < w.heap.size) (g : Mb.G s) (he : s.ep ≤ 1000000) (a : Int) : Calls Try.prog 32 #[.agg #[.slice aL s.l.length cL, .slice aS s.sp.length cS, .int .i64 s.ep, .int .i64 s.hole, .bool q, .int .i64 s.gone], .int .i64 a] w (RDn w aL aS (Mb.ws s a) [.int .i64 (Mb.wv s a), .int .i64 (Mb.wc s a)]) := by
  obtain ⟨W1, HW1⟩ : ∃ W1, Hid ((w.alloc (.cells #[.slice aL s.l.length cL, .slice aS s.sp.length cS, .int .i64 s.ep, .int .i64 s.hole, .bool q, .int .i64 s.gone] 31)).alloc (.cells #[.slice none 0 0, .slice none 0 0, .int .i64 0, .int .i64 0, .bool false, .int .i64 0] 31) = W1) := ⟨_, rfl⟩
  have HB1 : Hid (Below w.heap.size w W1) := by rw [← HW1.out]; exact bel_up (bel1 w _) (bel1 _ _) (Nat.le_refl _)
  have hx1 : W1.heap[w.heap.size]? = some (.cells #[.slice aL s.l.length cL, .slice aS s.sp.length cS, .int .i64 s.ep, .int .i64 s.hole, .bool q, .int .i64 s.gone] 31 (0, 0)) := by rw [← HW1.out]; exact heap_alloc2_old w _ _
  have hr1 : W1.heap[w.heap.size + 1]? = some (.cells #[.slice none 0 0, .slice none 0 0, .int .i64 0, .int .i64 0, .bool false, .int .i64 0] 31 (0, 0)) := by rw [← HW1.out]; exact heap_alloc2_new w _ _
  obtain ⟨⟨x0, x1, x2, x3, x4, x5⟩, xf⟩ := row6 hx1
  obtain ⟨⟨z0, z1, z2, z3, z4, z5⟩, zf⟩ := row6 hr1
  have g0 := zf 0
  have g1 := zf 1
  have g2 := zf 2
  have g3 := zf 3
  have g4 := zf 4
  have g5 := zf 5
  have f0 := xf 0
  have f1 := xf 1
  have f2 := xf 2
  have f3 := xf 3
  have f4 := xf 4
  have f5 := xf 5
  have HR1 := Hid_of hr1
  clear xf zf
  have HROW := Hid_of (put6_row HR1.out (.slice aL s.l.length cL) (.slice aS s.sp.length cS) (.int .i64 s.ep) (.int .i64 s.hole) (.bool q) (.int .i64 s.gone))
  have HX := Hid_of h
  have HNO : Hid (¬ Mb.wc s a = 0 → RDn w aL aS (Mb.ws s a) [.int .i64 (Mb.wv s a), .int .i64 (Mb.wc s a)] (.returned (.tuple #[.agg #[.slice aL s.l.length cL, .slice aS s.sp.length cS, .int .i64 s.ep, .int .i64 s.hole, .bool q, .int .i64 s.gone], .int .i64 0, .int .i64 (Mb.wc s a)])) (put6 W1 (w.heap.size + 1) (.slice aL s.l.length cL) (.slice aS s.sp.length cS) (.int .i64 s.ep) (.int .i64 s.hole) (.bool q) (.int .i64 s.gone))) := Hid_of fun e => by
    have hb : Below w.heap.size w (put6 W1 (w.heap.size + 1) (.slice aL s.l.length cL) (.slice aS s.sp.length cS) (.int .i64 s.ep) (.int .i64 s.hole) (.bool q) (.int .i64 s.gone)) := put6_bel HB1.out (by omega) _ _ _ _ _ _
    have hv : Mb.wv s a = 0 := by unfold Mb.wv; rw [if_neg e]
    refine ⟨aL, cL, aS, cS, by rw [Mb.ws_no e, hv, ← hq], by rw [Mb.ws_no e]; exact h.keep hb, hb, fun k hk => .inl hk⟩
  have HX1 := Hid_of hx1
  clear hx1 hr1
  have he0 := g.ep
  have hle := h.xs.le
  rcases Mb.wc_cases s a with ⟨k1, k2⟩ | ⟨k1, k2, k3⟩ | ⟨k1, k2, k3, k4⟩ | ⟨k1, k2, k3, k4, k5⟩ | ⟨k1, k2, k3, k4, k5⟩
  · have HQ := Hid_of (HNO.out (by rw [k2]; decide))
    rw [k2] at HQ ⊢
    have hl0 : s.sp.length = 0 := by rw [k1]; rfl
    have d1 : ((s.sp.length : Int) == 0) = true := by rw [hl0]; rfl
    clear hq g k1 hl0
    clear HNO k2 h hlow
    go_enter Try.func32, Try.ntmps32
    go_upto_region 1 with fail
    rw [HW1.out]
    clear HW1
    go_wp2
    refine bodyPost_ret (v := .tuple #[.agg #[.slice aL s.l.length cL, .slice aS s.sp.length cS, .int .i64 s.ep, .int .i64 s.hole, .bool q, .int .i64 s.gone], .int .i64 0, .int .i64 7]) ?_ rfl HQ.out
    exact res31_3 f32_res _ _ (w.heap.size + 1) _ _ _ _ _ _ rfl HROW.out
  · have HQ := Hid_of (HNO.out (by rw [k3]; decide))
    rw [k3] at HQ ⊢
    have d1 : ((s.sp.length : Int) == 0) = false := beq_false_of_ne (fun e => k1 (List.length_eq_zero_iff.1 (by omega)))
    have d2 : (a == s.ep) = false := beq_false_of_ne k2
    have d4 : (a != s.ep) = true := bne_iff_ne.2 k2
    clear hq g k1 k2
    clear HNO k3 h hlow
    go_enter Try.func32, Try.ntmps32
    go_upto_region 1 with fail
    rw [HW1.out]
    clear HW1
    go_wp2
    refine bodyPost_ret (v := .tuple #[.agg #[.slice aL s.l.length cL, .slice aS s.sp.length cS, .int .i64 s.ep, .int .i64 s.hole, .bool q, .int .i64 s.gone], .int .i64 0, .int .i64 10]) ?_ rfl HQ.out
    exact res31_3 f32_res _ _ (w.heap.size + 1) _ _ _ _ _ _ rfl HROW.out
  · have HQ := Hid_of (HNO.out (by rw [k4]; decide))
    rw [k4] at HQ ⊢
    have d1 : ((s.sp.length : Int) == 0) = false := beq_false_of_ne (fun e => k1 (List.length_eq_zero_iff.1 (by omega)))
    have d2 : (a == s.ep) = true := beq_iff_eq.2 k2
    have d4 : (a != s.ep) = false := bne_eq_false_iff_eq.2 k2
    have d3 : decide (s.hole < 0) = true := decide_eq_true k3
    clear hq g k1 k2 k3
    clear HNO k4 h hlow
    go_enter Try.func32, Try.ntmps32
    go_upto_region 1 with fail
    rw [HW1.out]
    clear HW1
    go_wp2
    refine bodyPost_ret (v := .tuple #[.agg #[.slice aL s.l.length cL, .slice aS s.sp.length cS, .int .i64 s.ep, .int .i64 s.hole, .bool q, .int .i64 s.gone], .int .i64 0, .int .i64 16]) ?_ rfl HQ.out
    exact res31_3 f32_res _ _ (w.heap.size + 1) _ _ _ _ _ _ rfl HROW.out
  · obtain rfl : q = true := by rw [← hq, k4]
    have HQ := Hid_of (HNO.out (by rw [k5]; decide))
    rw [k5] at HQ ⊢
    have d1 : ((s.sp.length : Int) == 0) = false := beq_false_of_ne (fun e => k1 (List.length_eq_zero_iff.1 (by omega)))
    have d2 : (a == s.ep) = true := beq_iff_eq.2 k2
    have d4 : (a != s.ep) = false := bne_eq_false_iff_eq.2 k2
    have d3 : decide (s.hole < 0) = false := decide_eq_false (by omega)
    clear hq g k1 k2 k3 k4
    clear HNO k5 h hlow
    go_enter Try.func32, Try.ntmps32
    go_upto_region 1 with fail
    rw [HW1.out]
    clear HW1
    go_wp2
    refine bodyPost_ret (v := .tuple #[.agg #[.slice aL s.l.length cL, .slice aS s.sp.length cS, .int .i64 s.ep, .int .i64 s.hole, .bool true, .int .i64 s.gone], .int .i64 0, .int .i64 16]) ?_ rfl HQ.out
    exact res31_3 f32_res _ _ (w.heap.size + 1) _ _ _ _ _ _ rfl HROW.out
  · obtain rfl : q = false := by rw [← hq, k4]
    obtain ⟨x, xs, hx⟩ : ∃ x xs, s.sp = x :: xs := by
      cases e : s.sp with
      | nil => exact absurd e k1
      | cons x xs => exact ⟨x, xs, rfl⟩
    obtain ⟨i, hi⟩ : ∃ i : Nat, s.hole = i := Int.eq_ofNat_of_zero_le k3
    have hil : i < s.l.length := by have := g.hi; omega
    have hl8 := g.g.2.1
    have hn64 : xs.length ≤ 1000000 := by have := g.ap.right.len; rw [hx] at this; simp at this; omega
    have HLN : Hid (s.sp.length = xs.length + 1) := Hid_of (by rw [hx]; rfl)
    have hat := h.xs.at'.keep HB1.out
    rw [hx] at hat
    obtain ⟨gs, os, rfl, cx, hat2⟩ := hat.tail
    have HA2 := Hid_of hat2
    have hatl := h.xl.at'.keep HB1.out
    obtain ⟨aw, cw, W2, hcp, how, hb2⟩ := copyA W1 aL cL s.l hatl (by omega)
    obtain ⟨gw, cw2, hvw, hge, -, hcw, hfw, hset0⟩ := how.set1 i hil 0 (by decide)
    simp only [Value.slice.injEq] at hvw
    obtain ⟨rfl, -, rfl⟩ := hvw
    have hcw2 : W2.cell? ⟨gw, i, none⟩ = some (.int .i64 s.l[i]) := by simpa [il] using hcw
    have hfw2 := hfw i
    clear hcw hfw
    have hset : OwnL il 3 (W2.setCell ⟨gw, i, none⟩ (.int .i64 x)) W1.heap.size (.slice (some ⟨gw, 0, none⟩) s.l.length cw) (s.l.set i x) := by
      have := hset0 x (.int .i64 x) rfl
      simpa [il] using this
    have hs1 : W1.heap.size = w.heap.size + 2 := by rw [← HW1.out]; simp
    have hXg : w.heap.size ≠ gw := by omega
    have hrx2 := bel_row HX1.out hb2
    have hrr2 := bel_row HR1.out hb2
    have hrx3 := (heap_setCell_other W2 ⟨gw, i, none⟩ w.heap.size (.int .i64 x) hXg).trans hrx2
    have hrr3 := (heap_setCell_other W2 ⟨gw, i, none⟩ (w.heap.size + 1) (.int .i64 x) (by show w.heap.size + 1 ≠ gw; omega)).trans hrr2
    have hrx4 := heap_setCell_same (W2.setCell ⟨gw, i, none⟩ (.int .i64 x)) w.heap.size 0 _ _ (.slice (some ⟨gw, 0, none⟩) s.l.length cw) hrx3
    have hrr4 := (heap_setCell_other (W2.setCell ⟨gw, i, none⟩ (.int .i64 x)) ⟨w.heap.size, 0, none⟩ (w.heap.size + 1) (.slice (some ⟨gw, 0, none⟩) s.l.length cw) (by show w.heap.size + 1 ≠ w.heap.size; omega)).trans hrr3
    have hset4 : OwnL il 3 ((W2.setCell ⟨gw, i, none⟩ (.int .i64 x)).setCell ⟨w.heap.size, 0, none⟩ (.slice (some ⟨gw, 0, none⟩) s.l.length cw)) W1.heap.size (.slice (some ⟨gw, 0, none⟩) s.l.length cw) (s.l.set i x) := hset.keepBut fun k hk e => heap_setCell_other _ ⟨w.heap.size, 0, none⟩ k _ (fun e' => by have e2 : k = w.heap.size := e'; simp [Value.ownBlock] at e; omega)
    have hb4 : Below w.heap.size w ((W2.setCell ⟨gw, i, none⟩ (.int .i64 x)).setCell ⟨w.heap.size, 0, none⟩ (.slice (some ⟨gw, 0, none⟩) s.l.length cw)) := ((bel_up HB1.out hb2 (Nat.le_refl _)).setCell (by show w.heap.size ≤ gw; omega) _).setCell (Nat.le_refl _) _
    have hatx4 := (h.xs.at'.keep hb4)
    rw [hx] at hatx4
    obtain ⟨gs', os', e', cx4, hat4⟩ := hatx4.tail
    cases e'
    -- ahead of the spares' copy
    have hrx2' := (row6 hrx2).1
    have hrx3' := (row6 hrx3).1
    have hx3f := (row6 hrx3).2 0
    obtain ⟨y0, y1, y2, y3, y4, y5⟩ := hrx2'
    obtain ⟨v0, v1, v2, v3, v4, v5⟩ := hrx3'
    obtain ⟨W4, HW4⟩ : ∃ W4, Hid ((W2.setCell ⟨gw, i, none⟩ (.int .i64 x)).setCell ⟨w.heap.size, 0, none⟩ (.slice (some ⟨gw, 0, none⟩) s.l.length cw) = W4) := ⟨_, rfl⟩
    rw [HW4.out] at hrx4 hrr4 hset4 hb4 cx4 hat4
    have HRX4 := Hid_of hrx4
    have HRR4 := Hid_of hrr4
    have HS4 := Hid_of hset4
    have HB4 := Hid_of hb4
    have HAT4 := Hid_of hat4
    have HW1S : Hid (w.heap.size + 2 ≤ W1.heap.size ∧ w.heap.size + 2 ≤ W4.heap.size) := Hid_of ⟨by omega, by
      have := hb2.size
      rw [← HW4.out]
      simp
      omega⟩
    obtain ⟨⟨p0, p1, p2, p3, p4, p5⟩, -⟩ := row6 hrx4
    have HFIN : Hid (∀ a2 c2 W5, OwnL il 3 W5 W4.heap.size (.slice a2 xs.length c2) xs → Below W4.heap.size W4 W5 →
        W5.heap[w.heap.size]? = W4.heap[w.heap.size]? ∧ W5.heap[w.heap.size + 1]? = W4.heap[w.heap.size + 1]? ∧
        ∀ W6, Below w.heap.size W5 W6 → (∀ k, k < W5.heap.size → k ≠ w.heap.size → k ≠ w.heap.size + 1 → W6.heap[k]? = W5.heap[k]?) →
          RDn w aL (some ⟨gs, os, none⟩) (Mb.ws s a) [.int .i64 (Mb.wv s a), .int .i64 (Mb.wc s a)] (.returned (.tuple #[.agg #[.slice (some ⟨gw, 0, none⟩) s.l.length cw, .slice a2 xs.length c2, .int .i64 (s.ep + 1), .int .i64 s.hole, .bool true, .int .i64 s.gone], .int .i64 x, .int .i64 0])) W6) := by
      refine Hid_of fun a2 c2 W5 ho hb => ⟨hb.block _ (by have := HW1S.out; omega), hb.block _ (by have := HW1S.out; omega), fun W6 hb6 hk6 => ?_⟩
      obtain ⟨al, cl, e1, hx5, hbl⟩ := (HS4.out.keep hb).at
      simp only [Value.slice.injEq] at e1
      obtain ⟨rfl, -, rfl⟩ := e1
      obtain ⟨al2, cl2, e2, hx6, hbl2⟩ := ho.at
      simp only [Value.slice.injEq, true_and] at e2
      obtain ⟨rfl, rfl⟩ := e2
      have hws : Mb.ws s a = ⟨s.l.set i x, xs, s.ep + 1, s.hole, true, s.gone⟩ := by rw [Mb.ws_yes k5, hx, hi]; rfl
      have hwv : Mb.wv s a = x := by unfold Mb.wv; rw [if_pos k5, hx]; rfl
      refine ⟨some ⟨gw, 0, none⟩, cw, a2, c2, ?_, ⟨?_, ?_⟩, ?_, ?_⟩
      · rw [hws, hwv, k5]
        show Ending.returned _ = Ending.returned (.tuple #[.agg #[.slice _ (s.l.set i x).length _, _, _, _, _, _], _, _])
        rw [List.length_set]
      · rw [hws]
        exact hx5.keepBut fun k hk e => hk6 k hk (by have := (hbl k e).1; have := HW1S.out; omega) (by have := (hbl k e).1; have := HW1S.out; omega)
      · rw [hws]
        exact hx6.keepBut fun k hk e => hk6 k hk (by have := (hbl2 k e).1; have := HW1S.out; omega) (by have := (hbl2 k e).1; have := HW1S.out; omega)
      · exact (bel_up HB4.out hb (Nat.le_refl _)).trans hb6
      · have hz := hb6.size
        rintro k (hk | hk)
        · have := hbl k hk; have := HW1S.out; exact .inr (by omega)
        · have := hbl2 k hk; have := HW1S.out; exact .inr (by omega)
    have HCP := Hid_of hcp
    have d1 : ((s.sp.length : Int) == 0) = false := beq_false_of_ne (by rw [hx]; simp; omega)
    have d2 : (a == s.ep) = true := beq_iff_eq.2 k2
    have d4 : (a != s.ep) = false := bne_eq_false_iff_eq.2 k2
    have d3 : decide ((i : Int) < 0) = false := decide_eq_false (by omega)
    have hni : (i : Int) < (s.l.length : Int) := by omega
    have hn0 : (0 : Int) ≤ (i : Int) := by omega
    have hwr : IntKind.i64.wrap (s.ep + 1) = s.ep + 1 := by rw [IntKind.wrap_i64]; omega
    rw [hi] at x3 y3 v3 p3
    rw [HLN.out] at x1 y1 v1 p1 hle
    have HHI := Hid_of hi
    have hmx := h.xs.mx
    clear hset0 HNO HROW h hlow g hq hat hat2 hatl hcp how hset hset4 hrx2 hrr2 hrx3 hrr3 hrx4 hrr4 hb2 hb4 hatx4 hat4 cx4 HX hx k1 k2 k4 k5 hge hi HX1 HR1 HB1 hl8 he k3 hXg hs1 d1
    have d1 : ((xs.length : Int) + 1 == 0) = false := beq_false_of_ne (by omega)
    go_enter Try.func32, Try.ntmps32
    go_upto_region 1 with fail
    rw [HW1.out]
    clear HW1
    generalize s.l[i] = xo at *
    go_upto_region 11 with (first | (at_builtin; refine wpList_append_known rfl _ _ 22 rfl _ _ rfl rfl _ _ (HCP.out _) ?_))
    rw [HW4.out]
    clear HW4 HCP cx x0 x1 x2 x3 x4 x5 y0 y1 y2 y3 y4 y5 v0 v1 v2 v3 v4 v5 hx3f hcw2 hfw2
    by_cases hcz : cS = 1
    · subst hcz
      obtain rfl : xs = [] := List.length_eq_zero_iff.1 (by omega)
      obtain ⟨a2, c2, W5, hc5, ho5, hb5⟩ := copyA W4 (some ⟨gs, os, none⟩) 0 [] (AtL.nil _ _) hn64
      simp only [List.length_nil, Nat.zero_add] at p1 hc5 hle d1
      obtain ⟨hrx5, hrr5, hfin⟩ := HFIN.out a2 c2 W5 ho5 hb5
      have HC5 := Hid_of hc5
      obtain ⟨⟨q0, q1, q2, q3, q4, q5⟩, qf⟩ := row6 (hrx5.trans HRX4.out)
      obtain ⟨⟨n0, n1, n2, n3, n4, n5⟩, nf⟩ := row6 (hrr5.trans HRR4.out)
      have qf1 := qf 1
      have qf4 := qf 4
      have qf2 := qf 2
      have nf0 := nf 0
      have nf1 := nf 1
      have nf2 := nf 2
      have nf3 := nf 3
      have nf4 := nf 4
      have nf5 := nf 5
      have hne : w.heap.size + 1 ≠ w.heap.size := by omega
      have HS : Hid ((((W5.setCell ⟨w.heap.size, 1, none⟩ (.slice a2 0 c2)).setCell ⟨w.heap.size, 4, none⟩ (.bool true)).setCell ⟨w.heap.size, 2, none⟩ (.int .i64 (s.ep + 1))).heap[w.heap.size + 1]? = W5.heap[w.heap.size + 1]?) := Hid_of (by
        rw [heap_setCell_other _ ⟨w.heap.size, 2, none⟩ _ _ hne, heap_setCell_other _ ⟨w.heap.size, 4, none⟩ _ _ hne, heap_setCell_other _ ⟨w.heap.size, 1, none⟩ _ _ hne])
      have HY := Hid_of (put6_row (HS.out.trans (hrr5.trans HRR4.out)) (.slice (some ⟨gw, 0, none⟩) s.l.length cw) (.slice a2 0 c2) (.int .i64 (s.ep + 1)) (.int .i64 s.hole) (.bool true) (.int .i64 s.gone))
      have hq6 := hfin (put6 (((W5.setCell ⟨w.heap.size, 1, none⟩ (.slice a2 0 c2)).setCell ⟨w.heap.size, 4, none⟩ (.bool true)).setCell ⟨w.heap.size, 2, none⟩ (.int .i64 (s.ep + 1))) (w.heap.size + 1) (.slice (some ⟨gw, 0, none⟩) s.l.length cw) (.slice a2 0 c2) (.int .i64 (s.ep + 1)) (.int .i64 s.hole) (.bool true) (.int .i64 s.gone)) (put6_bel (B := w.heap.size) (g := w.heap.size + 1) ((((Below.refl w.heap.size W5).setCell (p := ⟨w.heap.size, 1, none⟩) (Nat.le_refl _) _).setCell (p := ⟨w.heap.size, 4, none⟩) (Nat.le_refl _) _).setCell (p := ⟨w.heap.size, 2, none⟩) (Nat.le_refl _) _) (by omega) _ _ _ _ _ _) (fun k hk e1 e2 => by
        rw [put6_oth e2, heap_setCell_other _ ⟨w.heap.size, 2, none⟩ _ _ e1, heap_setCell_other _ ⟨w.heap.size, 4, none⟩ _ _ e1, heap_setCell_other _ ⟨w.heap.size, 1, none⟩ _ _ e1])
      simp only [List.length_nil] at hq6
      have HQ := Hid_of hq6
      clear hrx5 hrr5 hfin hq6 hc5 ho5 hb5 HFIN qf nf HRX4 HRR4 HS4 HB4 HAT4 HA2
      go_wp2_with (first | (at_builtin; refine wpList_append_known rfl _ _ 22 rfl _ _ rfl rfl _ _ (HC5.out _) ?_))
      refine bodyPost_ret (v := .tuple #[.agg #[.slice (some ⟨gw, 0, none⟩) s.l.length cw, .slice a2 0 c2, .int .i64 (s.ep + 1), .int .i64 s.hole, .bool true, .int .i64 s.gone], .int .i64 x, .int .i64 0]) ?_ rfl HQ.out
      exact res31_3 f32_res _ _ (w.heap.size + 1) _ _ _ _ _ _ rfl HY.out
    · obtain ⟨a2, c2, W5, hc5, ho5, hb5⟩ := copyA W4 (some ⟨gs, os + 1, none⟩) (cS - 1) xs HAT4.out hn64
      obtain ⟨hrx5, hrr5, hfin⟩ := HFIN.out a2 c2 W5 ho5 hb5
      have HC5 := Hid_of hc5
      obtain ⟨⟨q0, q1, q2, q3, q4, q5⟩, qf⟩ := row6 (hrx5.trans HRX4.out)
      obtain ⟨⟨n0, n1, n2, n3, n4, n5⟩, nf⟩ := row6 (hrr5.trans HRR4.out)
      have qf1 := qf 1
      have qf4 := qf 4
      have qf2 := qf 2
      have nf0 := nf 0
      have nf1 := nf 1
      have nf2 := nf 2
      have nf3 := nf 3
      have nf4 := nf 4
      have nf5 := nf 5
      have hne : w.heap.size + 1 ≠ w.heap.size := by omega
      have HS : Hid ((((W5.setCell ⟨w.heap.size, 1, none⟩ (.slice a2 xs.length c2)).setCell ⟨w.heap.size, 4, none⟩ (.bool true)).setCell ⟨w.heap.size, 2, none⟩ (.int .i64 (s.ep + 1))).heap[w.heap.size + 1]? = W5.heap[w.heap.size + 1]?) := Hid_of (by
        rw [heap_setCell_other _ ⟨w.heap.size, 2, none⟩ _ _ hne, heap_setCell_other _ ⟨w.heap.size, 4, none⟩ _ _ hne, heap_setCell_other _ ⟨w.heap.size, 1, none⟩ _ _ hne])
      have HY := Hid_of (put6_row (HS.out.trans (hrr5.trans HRR4.out)) (.slice (some ⟨gw, 0, none⟩) s.l.length cw) (.slice a2 xs.length c2) (.int .i64 (s.ep + 1)) (.int .i64 s.hole) (.bool true) (.int .i64 s.gone))
      have hq6 := hfin (put6 (((W5.setCell ⟨w.heap.size, 1, none⟩ (.slice a2 xs.length c2)).setCell ⟨w.heap.size, 4, none⟩ (.bool true)).setCell ⟨w.heap.size, 2, none⟩ (.int .i64 (s.ep + 1))) (w.heap.size + 1) (.slice (some ⟨gw, 0, none⟩) s.l.length cw) (.slice a2 xs.length c2) (.int .i64 (s.ep + 1)) (.int .i64 s.hole) (.bool true) (.int .i64 s.gone)) (put6_bel (B := w.heap.size) (g := w.heap.size + 1) ((((Below.refl w.heap.size W5).setCell (p := ⟨w.heap.size, 1, none⟩) (Nat.le_refl _) _).setCell (p := ⟨w.heap.size, 4, none⟩) (Nat.le_refl _) _).setCell (p := ⟨w.heap.size, 2, none⟩) (Nat.le_refl _) _) (by omega) _ _ _ _ _ _) (fun k hk e1 e2 => by
        rw [put6_oth e2, heap_setCell_other _ ⟨w.heap.size, 2, none⟩ _ _ e1, heap_setCell_other _ ⟨w.heap.size, 4, none⟩ _ _ e1, heap_setCell_other _ ⟨w.heap.size, 1, none⟩ _ _ e1])
      have HQ := Hid_of hq6
      clear hrx5 hrr5 hfin hq6 hc5 ho5 hb5 HFIN qf nf HRX4 HRR4 HS4 HB4 HAT4 HA2
      go_wp2_with (first | (at_builtin; refine wpList_append_known rfl _ _ 22 rfl _ _ rfl rfl _ _ (HC5.out _) ?_))
      refine bodyPost_ret (v := .tuple #[.agg #[.slice (some ⟨gw, 0, none⟩) s.l.length cw, .slice a2 xs.length c2, .int .i64 (s.ep + 1), .int .i64 s.hole, .bool true, .int .i64 s.gone], .int .i64 x, .int .i64 0]) ?_ rfl HQ.out
      exact res31_3 f32_res _ _ (w.heap.size + 1) _ _ _ _ _ _ rfl HY.out
end
end Go.Proofs.Ytacfndfkoiifhaa
