/-
  A vote is accepted by an acceptor.
-/
import Derived.Test.YtgodnpngdbelhaaG15
namespace Go.Proofs.Ytgodnpngdbelhaa.Na
open Go.RowKit
set_option linter.unusedVariables false
open Go.Proofs.Ytgodnpngdbelhaa.M (E V)

/-- Four cells of a block set, from one on. -/
def putO (w : World) (g o : Nat) (a b c d : Value) : World := (((w.setCell ⟨g, o, none⟩ a).setCell ⟨g, o + 1, none⟩ b).setCell ⟨g, o + 2, none⟩ c).setCell ⟨g, o + 3, none⟩ d
theorem putO_oth {w : World} {g k o : Nat} (h : k ≠ g) (a b c d : Value) : (putO w g o a b c d).heap[k]? = w.heap[k]? := by
  unfold putO
  rw [heap_setCell_other _ ⟨g, o + 3, none⟩ k _ h, heap_setCell_other _ ⟨g, o + 2, none⟩ k _ h, heap_setCell_other _ ⟨g, o + 1, none⟩ k _ h, heap_setCell_other _ ⟨g, o, none⟩ k _ h]
theorem _root_.Go.Proofs.Ytgodnpngdbelhaa.OwnL.setV {w : World} {base : Nat} {v : Value} {l : List V} (h : OwnL vl 84 w base v l) (i : Nat) (hi : i < l.length) (x : V) :
    ∃ g cap, v = .slice (some ⟨g, 0, none⟩) l.length cap ∧ base ≤ g ∧ g < w.heap.size ∧ (∃ a b c d, w.cell? ⟨g, i * 4, none⟩ = some a ∧ w.cell? ⟨g, i * 4 + 1, none⟩ = some b ∧ w.cell? ⟨g, i * 4 + 2, none⟩ = some c ∧ w.cell? ⟨g, i * 4 + 3, none⟩ = some d) ∧ (∀ j, w.frozen? ⟨g, j, none⟩ = false) ∧ OwnL vl 84 (putO w g (i * 4) (.int .i64 x.s) (.int .i64 x.b.i) (.int .i64 x.b.t) (.string x.v)) base v (l.set i x) := by
  obtain ⟨g, cap, hv, hb, hlt, k0, hf, h0⟩ := h.set1 i hi 0 (by decide)
  obtain ⟨_, _, hv1, _, _, k1, _, _⟩ := h.set1 i hi 1 (by decide)
  obtain ⟨_, _, hv2, _, _, k2, _, _⟩ := h.set1 i hi 2 (by decide)
  obtain ⟨_, _, hv3, _, _, k3, _, _⟩ := h.set1 i hi 3 (by decide)
  rw [hv] at hv1 hv2 hv3
  simp only [Value.slice.injEq, Option.some.injEq, Addr.mk.injEq, and_true] at hv1 hv2 hv3
  obtain ⟨rfl, _⟩ := hv1
  obtain ⟨rfl, _⟩ := hv2
  obtain ⟨rfl, _⟩ := hv3
  refine ⟨g, cap, hv, hb, hlt, ⟨_, _, _, _, k0, k1, k2, k3⟩, hf, ?_⟩
  have H0 := h0 ⟨x.s, l[i].b, l[i].v⟩ (.int .i64 x.s) rfl
  obtain ⟨g1, _, hv1, _, _, _, _, h1⟩ := H0.set1 i (by simpa using hi) 1 (by decide)
  have H1 := h1 ⟨x.s, ⟨x.b.i, l[i].b.t⟩, l[i].v⟩ (.int .i64 x.b.i) (by rw [List.getElem_set_self]; rfl)
  rw [List.set_set] at H1
  obtain ⟨g2, _, hv2, _, _, _, _, h2⟩ := H1.set1 i (by simpa using hi) 2 (by decide)
  have H2 := h2 ⟨x.s, ⟨x.b.i, x.b.t⟩, l[i].v⟩ (.int .i64 x.b.t) (by rw [List.getElem_set_self]; rfl)
  rw [List.set_set] at H2
  obtain ⟨g3, _, hv3, _, _, _, _, h3⟩ := H2.set1 i (by simpa using hi) 3 (by decide)
  have H3 := h3 x (.string x.v) (by rw [List.getElem_set_self]; rfl)
  rw [List.set_set] at H3
  rw [hv] at hv1 hv2 hv3
  simp only [Value.slice.injEq, Option.some.injEq, Addr.mk.injEq, and_true] at hv1 hv2 hv3
  obtain ⟨rfl, _⟩ := hv1
  obtain ⟨rfl, _⟩ := hv2
  obtain ⟨rfl, _⟩ := hv3
  exact H3
/-- What an Accept leaves. -/
def AcOut (w : World) (base b : Nat) (v : Value) (a : M.S) (x : V) (e : Ending) (w' : World) : Prop :=
  ∃ v', e = .returned (.bool (M.acb a x)) ∧ AI w' base b v' (M.acs a x) ∧ Fr w (fpa b v) w' (fpa b v')
set_option maxRecDepth 100000 in
set_option maxHeartbeats 1000000 in
theorem accept_no {w : World} {base b : Nat} {v : Value} {a : M.S} (h : AI w base b v a) (x : V) (hno : M.acb a x = false) : Calls Try.prog 85 #[.pointer (some ⟨b, 0, none⟩), vV x] w (AcOut w base b v a x) := by
  obtain ⟨W1, HW1⟩ : ∃ W1, Hid (w.alloc (.cells #[.int .i64 x.s, .int .i64 x.b.i, .int .i64 x.b.t, .string x.v] 84) = W1) := ⟨_, rfl⟩
  have hb1 : Below w.heap.size w W1 := by rw [← HW1.out]; exact bel1 w _
  have hr1 : W1.heap[w.heap.size]? = some (.cells #[.int .i64 x.s, .int .i64 x.b.i, .int .i64 x.b.t, .string x.v] 84 (0, 0)) := by rw [← HW1.out]; exact heap_alloc_last w _
  have h1 := h.keep hb1
  have hm := may_any h1 x.b
  obtain ⟨⟨z0, z1, z2, z3⟩, _⟩ := row4 hr1
  have HR1 := Hid_of hr1
  have HH1 := Hid_of h1
  have HB1 := Hid_of hb1
  have HQ : Hid (∀ w', Below w.heap.size w w' → AcOut w base b v a x (.returned (.bool false)) w') := fun w' hb => ⟨v, by rw [hno], by rw [M.acs_no hno]; exact h.keep hb, Fr.ofBelow hb⟩
  have HA : Hid ((M.may a x.b && decide (a.base ≤ x.s) && decide (x.s < 1024) && decide (x.v.size ≤ 4096)) = false) := hno
  clear h h1 hb1 hr1 hno
  cases hmx : M.may a x.b with
  | false =>
    rw [hmx] at hm
    clear hmx HA
    go_enter Try.func85, Try.ntmps85
    go_upto_region 1 with fail
    rw [HW1.out]
    go_wp2_with fail
    refine hm.mono ?_
    rintro e w2 ⟨rfl, hb2⟩
    have HB2 := Hid_of (bel_up HB1.out hb2 (Nat.le_refl _))
    obtain ⟨⟨y0, y1, y2, y3⟩, _⟩ := row4 (bel_row HR1.out hb2)
    clear hb2 hm
    go_wp2
    go_ret
    exact HQ.out _ HB2.out
  | true =>
    rw [hmx] at hm
    by_cases hsl : a.base ≤ x.s ∧ x.s < 1024
    · have hsz : 4096 < x.v.size := by
        have := HA.out
        rw [hmx, decide_eq_true hsl.1, decide_eq_true hsl.2] at this
        simpa using this
      have hsd : (decide (a.base ≤ x.s) && decide (x.s < 1024)) = true := by rw [decide_eq_true hsl.1, decide_eq_true hsl.2]; rfl
      have d0 : decide ((4096 : Int) < (x.v.size : Int)) = true := decide_eq_true (by omega)
      clear hmx HA hsl hsz
      go_enter Try.func85, Try.ntmps85
      go_upto_region 1 with fail
      rw [HW1.out]
      go_wp2_with fail
      refine hm.mono ?_
      rintro e w2 ⟨rfl, hb2⟩
      have HB2 := Hid_of (bel_up HB1.out hb2 (Nat.le_refl _))
      obtain ⟨⟨y0, y1, y2, y3⟩, _⟩ := row4 (bel_row HR1.out hb2)
      have hs := hasSlot_any (HH1.out.keep hb2) x.s
      rw [hsd] at hs
      clear hb2 hm hsd
      go_wp2_with fail
      refine hs.mono ?_
      rintro e w3 ⟨rfl, rfl⟩
      clear hs
      go_wp2
      go_ret
      exact HQ.out _ HB2.out
    · have hsd : (decide (a.base ≤ x.s) && decide (x.s < 1024)) = false := by
        cases hq : (decide (a.base ≤ x.s) && decide (x.s < 1024)) with
        | false => rfl
        | true => exact absurd (by simpa using hq) hsl
      clear hmx HA hsl
      go_enter Try.func85, Try.ntmps85
      go_upto_region 1 with fail
      rw [HW1.out]
      go_wp2_with fail
      refine hm.mono ?_
      rintro e w2 ⟨rfl, hb2⟩
      have HB2 := Hid_of (bel_up HB1.out hb2 (Nat.le_refl _))
      obtain ⟨⟨y0, y1, y2, y3⟩, _⟩ := row4 (bel_row HR1.out hb2)
      have hs := hasSlot_any (HH1.out.keep hb2) x.s
      rw [hsd] at hs
      clear hb2 hm hsd
      go_wp2_with fail
      refine hs.mono ?_
      rintro e w3 ⟨rfl, rfl⟩
      clear hs
      go_wp2
      go_ret
      exact HQ.out _ HB2.out
end Go.Proofs.Ytgodnpngdbelhaa.Na
namespace Go.Proofs.Ytgodnpngdbelhaa.Na
open Go.RowKit
set_option linter.unusedVariables false
open Go.Proofs.Ytgodnpngdbelhaa.M (E V)

/-- The last step: the vote is laid into its place. -/
theorem fin_any {w w6 : World} {base b bx r : Nat} {v v6 : Value} {a : M.S} {x : V} {l1 : List V} (h6 : AI w6 base b v6 ⟨x.b, a.base, l1⟩) (hx6 : w6.heap[bx]? = some (.cells #[.int .i64 x.s, .int .i64 x.b.i, .int .i64 x.b.t, .string x.v] 84 (0, 0))) (hne : ¬ fpa b v6 bx) (hr : r < l1.length)
    (hF : Fr w (fpa b v) w6 (fpa b v6) ∧ (∀ l2, l2 = l1.set r x → M.acs a x = ⟨x.b, a.base, l2⟩) ∧ M.acb a x = true) :
    ∃ g cap n, n = l1.length ∧ v6 = .slice (some ⟨g, 0, none⟩) n cap ∧ g ≠ b ∧ g ≠ bx ∧
      Hid (w6.drew.cell? ⟨b, 3, none⟩ = some (.slice (some ⟨g, 0, none⟩) n cap) ∧ w6.drew.cell? ⟨bx, 0, none⟩ = some (.int .i64 x.s) ∧ w6.drew.cell? ⟨bx, 1, none⟩ = some (.int .i64 x.b.i) ∧ w6.drew.cell? ⟨bx, 2, none⟩ = some (.int .i64 x.b.t) ∧ w6.drew.cell? ⟨bx, 3, none⟩ = some (.string x.v)) ∧
      Hid (∀ w7, Below w6.drew.heap.size w6.drew w7 → w7.cell? ⟨b, 3, none⟩ = some (.slice (some ⟨g, 0, none⟩) n cap) ∧ w7.cell? ⟨bx, 0, none⟩ = some (.int .i64 x.s) ∧ w7.cell? ⟨bx, 1, none⟩ = some (.int .i64 x.b.i) ∧ w7.cell? ⟨bx, 2, none⟩ = some (.int .i64 x.b.t) ∧ w7.cell? ⟨bx, 3, none⟩ = some (.string x.v)) ∧
      Hid (∀ w7, Below w6.drew.heap.size w6.drew w7 → (∃ q0 q1 q2 q3, w7.cell? ⟨g, r * 4, none⟩ = some q0 ∧ w7.cell? ⟨g, r * 4 + 1, none⟩ = some q1 ∧ w7.cell? ⟨g, r * 4 + 2, none⟩ = some q2 ∧ w7.cell? ⟨g, r * 4 + 3, none⟩ = some q3) ∧ w7.frozen? ⟨g, r * 4, none⟩ = false ∧ w7.frozen? ⟨g, r * 4 + 1, none⟩ = false ∧ w7.frozen? ⟨g, r * 4 + 2, none⟩ = false ∧ w7.frozen? ⟨g, r * 4 + 3, none⟩ = false) ∧
      Hid (∀ w7 : World, (w7.cell? ⟨b, 3, none⟩ = some (.slice (some ⟨g, 0, none⟩) n cap) ∧ w7.cell? ⟨bx, 0, none⟩ = some (.int .i64 x.s) ∧ w7.cell? ⟨bx, 1, none⟩ = some (.int .i64 x.b.i) ∧ w7.cell? ⟨bx, 2, none⟩ = some (.int .i64 x.b.t) ∧ w7.cell? ⟨bx, 3, none⟩ = some (.string x.v)) →
        ((putO w7 g (r * 4) (.int .i64 x.s) (.int .i64 x.b.i) (.int .i64 x.b.t) (.string x.v)).cell? ⟨b, 3, none⟩ = some (.slice (some ⟨g, 0, none⟩) n cap) ∧ (putO w7 g (r * 4) (.int .i64 x.s) (.int .i64 x.b.i) (.int .i64 x.b.t) (.string x.v)).cell? ⟨bx, 0, none⟩ = some (.int .i64 x.s) ∧ (putO w7 g (r * 4) (.int .i64 x.s) (.int .i64 x.b.i) (.int .i64 x.b.t) (.string x.v)).cell? ⟨bx, 1, none⟩ = some (.int .i64 x.b.i) ∧ (putO w7 g (r * 4) (.int .i64 x.s) (.int .i64 x.b.i) (.int .i64 x.b.t) (.string x.v)).cell? ⟨bx, 2, none⟩ = some (.int .i64 x.b.t) ∧ (putO w7 g (r * 4) (.int .i64 x.s) (.int .i64 x.b.i) (.int .i64 x.b.t) (.string x.v)).cell? ⟨bx, 3, none⟩ = some (.string x.v))) ∧
      Hid (∀ w7, Below w6.drew.heap.size w6.drew w7 → AcOut w base b v a x (.returned (.bool true)) (putO w7 g (r * 4) (.int .i64 x.s) (.int .i64 x.b.i) (.int .i64 x.b.t) (.string x.v))) := by
  obtain ⟨g, cap, hv, hbg, hgl, _, _, _⟩ := h6.own.setV r hr x
  have hgb : g ≠ b := fun e => h6.ap (by rw [hv, e]; rfl)
  have hgx : g ≠ bx := fun e => hne (.inr (by rw [hv, e]; rfl))
  have key : ∀ w7, Below w6.drew.heap.size w6.drew w7 → w7.cell? ⟨b, 3, none⟩ = some (.slice (some ⟨g, 0, none⟩) l1.length cap) ∧ w7.cell? ⟨bx, 0, none⟩ = some (.int .i64 x.s) ∧ w7.cell? ⟨bx, 1, none⟩ = some (.int .i64 x.b.i) ∧ w7.cell? ⟨bx, 2, none⟩ = some (.int .i64 x.b.t) ∧ w7.cell? ⟨bx, 3, none⟩ = some (.string x.v) := by
    intro w7 hb
    have h1 := (row4 (bel_row (W := w6.drew) h6.row hb)).1.2.2.2
    rw [hv] at h1
    exact ⟨h1, (row4 (bel_row (W := w6.drew) hx6 hb)).1⟩
  have kept : ∀ (w7 : World) (k o : Nat), k ≠ g → (putO w7 g (r * 4) (.int .i64 x.s) (.int .i64 x.b.i) (.int .i64 x.b.t) (.string x.v)).cell? ⟨k, o, none⟩ = w7.cell? ⟨k, o, none⟩ := fun w7 k o hk => World.cell?_of_block (w := w7) (a := ⟨k, o, none⟩) (putO_oth hk _ _ _ _)
  refine ⟨g, cap, l1.length, rfl, hv, hgb, hgx, Hid_of (key _ (Below.refl _ _)), Hid_of key, Hid_of fun w7 hb => ?_, Hid_of fun w7 hw => ?_, Hid_of fun w7 hb => ?_⟩
  · have hb' : Below w6.heap.size w6 w7 := ⟨hb.os, hb.tape, hb.output, hb.size, hb.block⟩
    obtain ⟨g', cap', hv', _, _, hc, hf, _⟩ := (h6.keep hb').own.setV r hr x
    rw [hv] at hv'
    simp only [Value.slice.injEq, Option.some.injEq, Addr.mk.injEq, and_true, true_and] at hv'
    obtain ⟨rfl, _⟩ := hv'
    exact ⟨hc, hf _, hf _, hf _, hf _⟩
  · rw [kept _ _ _ hgb.symm, kept _ _ _ hgx.symm, kept _ _ _ hgx.symm, kept _ _ _ hgx.symm, kept _ _ _ hgx.symm]
    exact hw
  · have hb' : Below w6.heap.size w6 w7 := ⟨hb.os, hb.tape, hb.output, hb.size, hb.block⟩
    have h7 := h6.keep hb'
    obtain ⟨g', cap', hv', _, _, _, _, ho⟩ := h7.own.setV r hr x
    rw [hv] at hv'
    simp only [Value.slice.injEq, Option.some.injEq, Addr.mk.injEq, and_true, true_and] at hv'
    obtain ⟨rfl, _⟩ := hv'
    refine ⟨v6, by rw [hF.2.2], ?_, ?_⟩
    · rw [hF.2.1 _ rfl]
      exact ⟨(putO_oth hgb.symm _ _ _ _).trans h7.row, ho, h6.ap, h6.lo⟩
    · refine (hF.1.up hb').trans ?_
      have hg : fpa b v6 g := .inr (by rw [hv]; rfl)
      exact fr_set (fr_set (fr_set (fr_set (Fr.refl _ _) hg _ _) hg _ _) hg _ _) hg _ _
theorem arg_one (w : World) (v : Value) (hv : ∀ k, v.ownBlock = some k → k < w.heap.size) : Arg (w.alloc (.cells #[.int .i64 0, .int .i64 0, .int .i64 0, .string ⟨#[]⟩] 84)) v (.slice (some ⟨w.heap.size, 0, none⟩) 1 1) [⟨0, ⟨0, 0⟩, ⟨#[]⟩⟩] :=
  .inr ⟨w.heap.size, 1, [.int .i64 0, .int .i64 0, .int .i64 0, .string ⟨#[]⟩], rfl, ⟨heap_alloc_last w _, by simp, by decide, rfl, rfl⟩, fun e => by have := hv _ e; omega, by simp⟩
set_option maxRecDepth 100000 in
set_option maxHeartbeats 2000000 in
theorem accept_yes {w : World} {base b : Nat} {v : Value} {a : M.S} (h : AI w base b v a) (hbs : base ≤ w.heap.size) (ok : M.Ok a) (x : V) (hyes : M.acb a x = true) : Calls Try.prog 85 #[.pointer (some ⟨b, 0, none⟩), vV x] w (AcOut w base b v a x) := by
  obtain ⟨hmx, hs0, hs1, hsz⟩ := M.acb_yes hyes
  obtain ⟨W1, HW1⟩ : ∃ W1, Hid (w.alloc (.cells #[.int .i64 x.s, .int .i64 x.b.i, .int .i64 x.b.t, .string x.v] 84) = W1) := ⟨_, rfl⟩
  have hb1 : Below w.heap.size w W1 := by rw [← HW1.out]; exact bel1 w _
  have hr1 : W1.heap[w.heap.size]? = some (.cells #[.int .i64 x.s, .int .i64 x.b.i, .int .i64 x.b.t, .string x.v] 84 (0, 0)) := by rw [← HW1.out]; exact heap_alloc_last w _
  have h1 := h.keep hb1
  have hm := may_any h1 x.b
  rw [hmx] at hm
  obtain ⟨⟨z0, z1, z2, z3⟩, _⟩ := row4 hr1
  have HR1 := Hid_of hr1
  have HH := Hid_of h
  have HB1 := Hid_of hb1
  have HOK := Hid_of ok
  have HY := Hid_of hyes
  have HXS : Hid (x.v.size ≤ 140737488351232) := by have := hsz; exact Hid_of (by omega)
  have hsd : (decide (a.base ≤ x.s) && decide (x.s < 1024)) = true := by rw [decide_eq_true hs0, decide_eq_true hs1]; rfl
  have d0 : decide ((4096 : Int) < (x.v.size : Int)) = false := decide_eq_false (by omega)
  clear h h1 hb1 hr1 ok hyes hmx hs0 hs1 hsz
  go_enter Try.func85, Try.ntmps85
  go_upto_region 1 with fail
  rw [HW1.out]
  clear HW1
  go_wp2_with fail
  refine hm.mono ?_
  rintro e w2 ⟨rfl, hb2⟩
  have hbw2 := bel_up HB1.out hb2 (Nat.le_refl _)
  have HB2 := Hid_of hbw2
  have hr2 := bel_row HR1.out hb2
  obtain ⟨⟨y0, y1, y2, y3⟩, _⟩ := row4 hr2
  have h2 := HH.out.keep hbw2
  have hs := hasSlot_any h2 x.s
  rw [hsd] at hs
  obtain ⟨⟨c0, c1, c2, c3⟩, cf⟩ := row4 h2.row
  have f0 := cf 0
  have f1 := cf 1
  have h3 := h2.setP x.b
  have hbx : w.heap.size ≠ b := by have := HH.out.lt; omega
  have hr3 : (put2 w2 b (.int .i64 x.b.i) (.int .i64 x.b.t)).heap[w.heap.size]? = some (.cells #[.int .i64 x.s, .int .i64 x.b.i, .int .i64 x.b.t, .string x.v] 84 (0, 0)) := by
    unfold put2
    rw [heap_setCell_other _ ⟨b, 1, none⟩ _ _ hbx, heap_setCell_other _ ⟨b, 0, none⟩ _ _ hbx]
    exact hr2
  have hf3 : Fr w (fpa b v) (put2 w2 b (.int .i64 x.b.i) (.int .i64 x.b.t)) (fpa b v) := fr_set (fr_set (Fr.ofBelow hbw2) (.inl rfl) 0 _) (.inl rfl) 1 _
  obtain ⟨W3, HW3⟩ : ∃ W3, Hid (put2 w2 b (.int .i64 x.b.i) (.int .i64 x.b.t) = W3) := ⟨_, rfl⟩
  have HW3' : Hid ((w2.setCell ⟨b, 0, none⟩ (.int .i64 x.b.i)).setCell ⟨b, 1, none⟩ (.int .i64 x.b.t) = W3) := HW3.out
  rw [HW3.out] at h3 hr3 hf3
  have HF3 := Hid_of hf3
  have HH3 := Hid_of h3
  have HR3 := Hid_of hr3
  clear hb2 hm h2 cf z0 z1 z2 z3 HR1 HB1 HW3 hsd hbw2 hr2 h3 hr3 hf3
  go_wp2_with fail
  refine hs.mono ?_
  rintro e w3 ⟨rfl, rfl⟩
  clear hs
  obtain ⟨ad, cap, hv, hxl, hbl⟩ := HH3.out.own.at
  simp only at hv hxl
  have HPL : Hid (∀ W, Below W3.heap.size W3 W → Calls Try.prog 80 #[.slice ad a.l.length cap, .int .i64 x.s] W (SrOut W a.l x.s)) := fun W hW => place_any ad cap a.l x.s W (by have := HOK.out.len; omega) (hxl.at'.keep hW) HOK.out.up
  have HS : Hid (∀ w', Below W3.heap.size W3 w' → (w'.cell? ⟨w.heap.size, 0, none⟩ = some (.int .i64 x.s) ∧ w'.cell? ⟨w.heap.size, 1, none⟩ = some (.int .i64 x.b.i) ∧ w'.cell? ⟨w.heap.size, 2, none⟩ = some (.int .i64 x.b.t) ∧ w'.cell? ⟨w.heap.size, 3, none⟩ = some (.string x.v)) ∧ (w'.cell? ⟨b, 0, none⟩ = some (.int .i64 x.b.i) ∧ w'.cell? ⟨b, 1, none⟩ = some (.int .i64 x.b.t) ∧ w'.cell? ⟨b, 2, none⟩ = some (.int .i64 a.base) ∧ w'.cell? ⟨b, 3, none⟩ = some (.slice ad a.l.length cap))) := by
    intro w' hb
    have h4 := (row4 (bel_row HH3.out.row hb)).1
    rw [hv] at h4
    exact ⟨(row4 (bel_row HR3.out hb)).1, h4⟩
  have HV := Hid_of hv
  clear hxl hbl hv
  go_wp2_with fail
  rw [HW3'.out]
  clear HW3'
  refine wp_region_held_drew (S := fun wq => Below (W3).heap.size (W3) wq) (by kernel_rfl) (Below.drew (Below.refl _ _)) (fun hHeld => ?_)
  refine wpAnyH_take (i := 0) (oi := ?p0a) (v := ?v0a) ?o0a (by kernel_rfl) (by kernel_rfl) (by kernel_rfl) ?q0a ?y0a hHeld ?r0a
  case o0a => simp only [List.getElem?_toArray, List.getElem?_cons_zero]; rfl
  case q0a => exact fun _ _ _ h => h
  case y0a => (refine Or.inl ⟨rfl, ?_⟩; intro wq hq; obtain ⟨⟨z0, z1, z2, z3⟩, ⟨y0, y1, y2, y3⟩⟩ := HS.out wq hq; go_simp; try with_reducible rfl)
  simp only [Act.put, List.setIfInBounds_toArray, List.set_cons_zero, List.set_cons_succ]
  refine wpAnyH_take (i := 1) (oi := ?p1a) (v := ?v1a) ?o1a (by kernel_rfl) (by kernel_rfl) (by kernel_rfl) ?q1a ?y1a hHeld ?r1a
  case o1a => simp only [List.getElem?_toArray, List.getElem?_cons_succ, List.getElem?_cons_zero]; rfl
  case q1a => exact fun _ _ _ h => h
  case y1a => (refine Or.inl ⟨rfl, ?_⟩; intro wq hq; obtain ⟨⟨z0, z1, z2, z3⟩, ⟨y0, y1, y2, y3⟩⟩ := HS.out wq hq; go_simp; try with_reducible rfl)
  simp only [Act.put, List.setIfInBounds_toArray, List.set_cons_zero, List.set_cons_succ]
  refine wpAnyH_take (i := 2) (oi := ?p2a) (v := ?v2a) ?o2a (by kernel_rfl) (by kernel_rfl) (by kernel_rfl) ?q2a ?y2a hHeld ?r2a
  case o2a => simp only [List.getElem?_toArray, List.getElem?_cons_succ, List.getElem?_cons_zero]; rfl
  case q2a => exact fun _ _ _ h => h
  case y2a => (refine Or.inl ⟨rfl, ?_⟩; intro wq hq; obtain ⟨⟨z0, z1, z2, z3⟩, ⟨y0, y1, y2, y3⟩⟩ := HS.out wq hq; go_simp; try with_reducible rfl)
  simp only [Act.put, List.setIfInBounds_toArray, List.set_cons_zero, List.set_cons_succ]
  refine wpAnyH_take (i := 3) (oi := ?p3a) (v := ?v3a) ?o3a (by kernel_rfl) (by kernel_rfl) (by kernel_rfl) ?q3a ?y3a hHeld ?r3a
  case o3a => simp only [List.getElem?_toArray, List.getElem?_cons_succ, List.getElem?_cons_zero]; rfl
  case q3a => exact fun _ _ _ h => h
  case y3a => (refine Or.inl ⟨rfl, ?_⟩; intro wq hq; obtain ⟨⟨z0, z1, z2, z3⟩, ⟨y0, y1, y2, y3⟩⟩ := HS.out wq hq; go_simp; try with_reducible rfl)
  simp only [Act.put, List.setIfInBounds_toArray, List.set_cons_zero, List.set_cons_succ]
  refine wpAnyH_take (i := 4) (oi := ?p4a) (v := ?v4a) ?o4a (by kernel_rfl) (by kernel_rfl) (by kernel_rfl) ?q4a ?y4a hHeld ?r4a
  case o4a => simp only [List.getElem?_toArray, List.getElem?_cons_succ, List.getElem?_cons_zero]; rfl
  case q4a => exact fun _ _ _ h => h
  case y4a => (refine Or.inl ⟨rfl, ?_⟩; intro wq hq; obtain ⟨⟨z0, z1, z2, z3⟩, ⟨y0, y1, y2, y3⟩⟩ := HS.out wq hq; go_simp; try with_reducible rfl)
  simp only [Act.put, List.setIfInBounds_toArray, List.set_cons_zero, List.set_cons_succ]
  refine wpAnyH_take (i := 5) (oi := ?p5a) (v := ?v5a) ?o5a (by kernel_rfl) (by kernel_rfl) (by kernel_rfl) ?q5a ?y5a hHeld ?r5a
  case o5a => simp only [List.getElem?_toArray, List.getElem?_cons_succ, List.getElem?_cons_zero]; rfl
  case q5a => exact fun _ _ _ h => h
  case y5a => (refine Or.inl ⟨rfl, ?_⟩; intro wq hq; obtain ⟨⟨z0, z1, z2, z3⟩, ⟨y0, y1, y2, y3⟩⟩ := HS.out wq hq; go_simp; try with_reducible rfl)
  simp only [Act.put, List.setIfInBounds_toArray, List.set_cons_zero, List.set_cons_succ]
  refine wpAnyH_ready (rs := [6]) (by kernel_rfl) (by simp) ?_
  refine AllReadyH.cons (o := ?p6a) ?o6a ?s6a AllReadyH.nil
  case o6a => simp only [List.getElem?_toArray, List.getElem?_cons_succ, List.getElem?_cons_zero]; rfl
  intro K hK
  go_simp
  refine (HPL.out _ hHeld).mono ?_
  rintro e w4 ⟨r, bb, rfl, hsr, hb4⟩
  have B6 : Below W3.heap.size W3 w4 := hHeld.trans (hb4.mono hHeld.size)
  clear hb4
  refine hK.out _ _ B6 (fun hHeld => ?_)
  clear hK K
  refine wpAnyH_take (i := 7) (oi := ?p7a) (v := ?v7a) ?o7a (by kernel_rfl) (by kernel_rfl) (by kernel_rfl) ?q7a ?y7a hHeld ?r7a
  case o7a => simp only [List.getElem?_toArray, List.getElem?_cons_succ, List.getElem?_cons_zero]; rfl
  case q7a => exact fun _ _ _ h => h
  case y7a => (refine Or.inl ⟨rfl, ?_⟩; intro wq hq; obtain ⟨⟨z0, z1, z2, z3⟩, ⟨y0, y1, y2, y3⟩⟩ := HS.out wq hq; go_simp; try with_reducible rfl)
  simp only [Act.put, List.setIfInBounds_toArray, List.set_cons_zero, List.set_cons_succ]
  refine wpAnyH_take (i := 8) (oi := ?p8a) (v := ?v8a) ?o8a (by kernel_rfl) (by kernel_rfl) (by kernel_rfl) ?q8a ?y8a hHeld ?r8a
  case o8a => simp only [List.getElem?_toArray, List.getElem?_cons_succ, List.getElem?_cons_zero]; rfl
  case q8a => exact fun _ _ _ h => h
  case y8a => (refine Or.inl ⟨rfl, ?_⟩; intro wq hq; obtain ⟨⟨z0, z1, z2, z3⟩, ⟨y0, y1, y2, y3⟩⟩ := HS.out wq hq; go_simp; try with_reducible rfl)
  simp only [Act.put, List.setIfInBounds_toArray, List.set_cons_zero, List.set_cons_succ]
  refine wpAnyH_take (i := 9) (oi := ?p9a) (v := ?v9a) ?o9a (by kernel_rfl) (by kernel_rfl) (by kernel_rfl) ?q9a ?y9a hHeld ?r9a
  case o9a => simp only [List.getElem?_toArray, List.getElem?_cons_succ, List.getElem?_cons_zero]; rfl
  case q9a => exact fun _ _ _ h => h
  case y9a => (refine Or.inl ⟨rfl, ?_⟩; intro wq hq; obtain ⟨⟨z0, z1, z2, z3⟩, ⟨y0, y1, y2, y3⟩⟩ := HS.out wq hq; go_simp; try with_reducible rfl)
  simp only [Act.put, List.setIfInBounds_toArray, List.set_cons_zero, List.set_cons_succ]
  refine wpAnyH_take (i := 10) (oi := ?p10a) (v := ?v10a) ?o10a (by kernel_rfl) (by kernel_rfl) (by kernel_rfl) ?q10a ?y10a hHeld ?r10a
  case o10a => simp only [List.getElem?_toArray, List.getElem?_cons_succ, List.getElem?_cons_zero]; rfl
  case q10a => exact fun _ _ _ h => h
  case y10a => (refine Or.inl ⟨rfl, ?_⟩; intro wq hq; obtain ⟨⟨z0, z1, z2, z3⟩, ⟨y0, y1, y2, y3⟩⟩ := HS.out wq hq; go_simp; try with_reducible rfl)
  simp only [Act.put, List.setIfInBounds_toArray, List.set_cons_zero, List.set_cons_succ]
  refine wpAnyH_take (i := 11) (oi := ?p11a) (v := ?v11a) ?o11a (by kernel_rfl) (by kernel_rfl) (by kernel_rfl) ?q11a ?y11a hHeld ?r11a
  case o11a => simp only [List.getElem?_toArray, List.getElem?_cons_succ, List.getElem?_cons_zero]; rfl
  case q11a => exact fun _ _ _ h => h
  case y11a => (refine Or.inl ⟨rfl, ?_⟩; intro wq hq; obtain ⟨⟨z0, z1, z2, z3⟩, ⟨y0, y1, y2, y3⟩⟩ := HS.out wq hq; go_simp; try with_reducible rfl)
  simp only [Act.put, List.setIfInBounds_toArray, List.set_cons_zero, List.set_cons_succ]
  refine wpAnyH_done (by kernel_rfl) ?_ _
  have HX4 := Hid_of (bel_row HR3.out hHeld)
  have HH4 := Hid_of (HH3.out.keep hHeld)
  have HF4 := Hid_of (HF3.out.up hHeld)
  have hlen := HOK.out.len
  have hsl := hsr.le
  have HSR := Hid_of hsr
  have HNX : Hid (∀ k, v.ownBlock = some k → k ≠ w.heap.size) := fun k hk e => by have := (HH.out.own.lt hk).2; omega
  have hbw : b ≠ w.heap.size := by have := HH.out.lt; omega
  clear hsr HPL HS HR3 HH3 HF3 HB2 y0 y1 y2 y3 c0 c1 c2 c3 f0 f1 hHeld
  cases bb with
  | true =>
    have h6 := HH4.out
    have hx6 := HX4.out
    have hne6 : ¬ fpa b v w.heap.size := by
      rintro (e | e)
      · exact hbw e.symm
      · exact HNX.out _ e rfl
    obtain ⟨hlt6, -⟩ := HSR.out.yes rfl
    have hF6 : Fr w (fpa b v) w4 (fpa b v) ∧ (∀ l2, l2 = a.l.set r x → M.acs a x = ⟨x.b, a.base, l2⟩) ∧ M.acb a x = true := ⟨HF4.out, fun l2 e => by rw [M.acs_yes HY.out, e, HSR.out.put_yes HOK.out.up], HY.out⟩
    clear HH4 HX4 HF4
    go_wp2_with fail
    obtain ⟨g, cap6, N6, hN6, hv6, hgb, hgx, HKI, HKS, HKC, HKT, HQ⟩ := fin_any h6 hx6 hne6 hlt6 hF6
    subst hv6
    obtain rfl := hN6
    have hi6 := hlt6
    have hi7 : (r : Int) < (a.l.length : Int) := by omega
    clear h6 hx6 hne6 hF6
    refine wp_region_held_drew (S := fun wq => wq.cell? ⟨b, 3, none⟩ = some (.slice (some ⟨g, 0, none⟩) a.l.length cap6) ∧ wq.cell? ⟨w.heap.size, 0, none⟩ = some (.int .i64 x.s) ∧ wq.cell? ⟨w.heap.size, 1, none⟩ = some (.int .i64 x.b.i) ∧ wq.cell? ⟨w.heap.size, 2, none⟩ = some (.int .i64 x.b.t) ∧ wq.cell? ⟨w.heap.size, 3, none⟩ = some (.string x.v)) (by kernel_rfl) HKI.out (fun hHeld => ?_)
    refine wpAnyH_take (i := 0) (oi := ?p0b) (v := ?v0b) ?o0b (by kernel_rfl) (by kernel_rfl) (by kernel_rfl) ?q0b ?y0b hHeld ?r0b
    case o0b => simp only [List.getElem?_toArray, List.getElem?_cons_zero]; rfl
    case q0b => exact fun _ _ _ h => h
    case y0b => (refine Or.inl ⟨rfl, ?_⟩; intro wq hq; obtain ⟨y3, z0, z1, z2, z3⟩ := hq; go_simp; try with_reducible rfl)
    simp only [Act.put, List.setIfInBounds_toArray, List.set_cons_zero, List.set_cons_succ]
    refine wpAnyH_take (i := 1) (oi := ?p1b) (v := ?v1b) ?o1b (by kernel_rfl) (by kernel_rfl) (by kernel_rfl) ?q1b ?y1b hHeld ?r1b
    case o1b => simp only [List.getElem?_toArray, List.getElem?_cons_succ, List.getElem?_cons_zero]; rfl
    case q1b => exact fun _ _ _ h => h
    case y1b => (refine Or.inl ⟨rfl, ?_⟩; intro wq hq; obtain ⟨y3, z0, z1, z2, z3⟩ := hq; go_simp; try with_reducible rfl)
    simp only [Act.put, List.setIfInBounds_toArray, List.set_cons_zero, List.set_cons_succ]
    refine wpAnyH_take (i := 2) (oi := ?p2b) (v := ?v2b) ?o2b (by kernel_rfl) (by kernel_rfl) (by kernel_rfl) ?q2b ?y2b hHeld ?r2b
    case o2b => simp only [List.getElem?_toArray, List.getElem?_cons_succ, List.getElem?_cons_zero]; rfl
    case q2b => exact fun _ _ _ h => h
    case y2b => (refine Or.inl ⟨rfl, ?_⟩; intro wq hq; obtain ⟨y3, z0, z1, z2, z3⟩ := hq; go_simp; try with_reducible rfl)
    simp only [Act.put, List.setIfInBounds_toArray, List.set_cons_zero, List.set_cons_succ]
    refine wpAnyH_take (i := 3) (oi := ?p3b) (v := ?v3b) ?o3b (by kernel_rfl) (by kernel_rfl) (by kernel_rfl) ?q3b ?y3b hHeld ?r3b
    case o3b => simp only [List.getElem?_toArray, List.getElem?_cons_succ, List.getElem?_cons_zero]; rfl
    case q3b => exact fun _ _ _ h => h
    case y3b => (refine Or.inl ⟨rfl, ?_⟩; intro wq hq; obtain ⟨y3, z0, z1, z2, z3⟩ := hq; go_simp; try with_reducible rfl)
    simp only [Act.put, List.setIfInBounds_toArray, List.set_cons_zero, List.set_cons_succ]
    refine wpAnyH_take (i := 4) (oi := ?p4b) (v := ?v4b) ?o4b (by kernel_rfl) (by kernel_rfl) (by kernel_rfl) ?q4b ?y4b hHeld ?r4b
    case o4b => simp only [List.getElem?_toArray, List.getElem?_cons_succ, List.getElem?_cons_zero]; rfl
    case q4b => exact fun _ _ _ h => h
    case y4b => (refine Or.inl ⟨rfl, ?_⟩; intro wq hq; obtain ⟨y3, z0, z1, z2, z3⟩ := hq; go_simp; try with_reducible rfl)
    simp only [Act.put, List.setIfInBounds_toArray, List.set_cons_zero, List.set_cons_succ]
    refine wpAnyH_take (i := 5) (oi := ?p5b) (v := ?v5b) ?o5b (by kernel_rfl) (by kernel_rfl) (by kernel_rfl) ?q5b ?y5b hHeld ?r5b
    case o5b => simp only [List.getElem?_toArray, List.getElem?_cons_succ, List.getElem?_cons_zero]; rfl
    case q5b => exact fun _ _ _ h => h
    case y5b => (refine Or.inl ⟨rfl, ?_⟩; intro wq hq; obtain ⟨y3, z0, z1, z2, z3⟩ := hq; go_simp; try with_reducible rfl)
    simp only [Act.put, List.setIfInBounds_toArray, List.set_cons_zero, List.set_cons_succ]
    refine wpAnyH_ready (rs := [6]) (by kernel_rfl) (by simp) ?_
    refine AllReadyH.cons (o := ?p6b) ?o6b ?s6b AllReadyH.nil
    case o6b => simp only [List.getElem?_toArray, List.getElem?_cons_succ, List.getElem?_cons_zero]; rfl
    intro K hK
    go_simp
    refine (own_any x _ HXS.out).mono ?_
    rintro e w7 ⟨rfl, hb7⟩
    have S7 := HKS.out _ hb7
    have HG7 := Hid_of (HKC.out _ hb7)
    have HQ7 := Hid_of (HQ.out _ hb7)
    clear hb7
    refine hK.out _ _ S7 (fun hHeld => ?_)
    clear hK K
    refine wpAnyH_take (i := 7) (oi := ?p7b) (v := ?v7b) ?o7b (by kernel_rfl) (by kernel_rfl) (by kernel_rfl) ?q7b ?y7b hHeld ?r7b
    case o7b => simp only [List.getElem?_toArray, List.getElem?_cons_succ, List.getElem?_cons_zero]; rfl
    case q7b => exact fun _ _ _ h => h
    case y7b => (refine Or.inl ⟨rfl, ?_⟩; intro wq hq; obtain ⟨y3, z0, z1, z2, z3⟩ := hq; go_simp; try with_reducible rfl)
    simp only [Act.put, List.setIfInBounds_toArray, List.set_cons_zero, List.set_cons_succ]
    refine wpAnyH_ready (rs := [8]) (by kernel_rfl) (by simp) ?_
    refine AllReadyH.cons (o := ?p8b) ?o8b ?s8b AllReadyH.nil
    case o8b => simp only [List.getElem?_toArray, List.getElem?_cons_succ, List.getElem?_cons_zero]; rfl
    intro K hK
    go_simp
    obtain ⟨⟨q0, q1, q2, q3, gc0, gc1, gc2, gc3⟩, gf0, gf1, gf2, gf3⟩ := HG7.out
    go_simp
    refine hK.out _ _ (HKT.out _ hHeld) (fun hHeld => ?_)
    clear hK K
    refine wpAnyH_done (by kernel_rfl) ?_ _
    go_wp2
    go_ret
    exact HQ7.out
  | false =>
    have h4 := HH4.out
    obtain ⟨⟨c0, c1, c2, c3⟩, _⟩ := row4 h4.row
    rw [HV.out] at c3
    simp only at c0 c1 c2
    have hbs4 : base ≤ w4.heap.size := Nat.le_trans hbs HF4.out.size
    have hins := insert_any r (Nat.le_trans hbs4 (bel1 w4 (.cells #[.int .i64 0, .int .i64 0, .int .i64 0, .string ⟨#[]⟩] 84)).size) (h4.own.keep (bel1 w4 _)) (arg_one w4 v (fun k hk => (h4.own.lt hk).2)) hsl (by simp only; omega) (by simp)
    rw [HV.out] at hins
    clear h4
    go_wp2_with fail
    refine hins.mono ?_
    rintro e w5 ⟨v6, rfl, ho5, hr5⟩
    have hb4 := bel1 w4 (.cells #[.int .i64 0, .int .i64 0, .int .i64 0, .string ⟨#[]⟩] 84)
    rw [← HV.out] at hr5
    have hR5 : Rw w4 v w5 v6 := (Rw.ofBelow _ hb4).trans hr5
    have h4 := HH4.out
    have hb5 : w5.heap[b]? = w4.heap[b]? := hR5.g.block b h4.lt (fun e => h4.ap e.symm)
    have hx5 : w5.heap[w.heap.size]? = w4.heap[w.heap.size]? := hR5.g.block _ (Array.getElem?_eq_some_iff.1 HX4.out).1 (fun e => HNX.out _ e.symm rfl)
    have hap6 : v6.ownBlock ≠ some b := fun e => by
      rcases hR5.n b e with h | h
      · exact h4.ap h
      · have := h4.lt; omega
    have hrow5 := hb5.trans h4.row
    obtain ⟨⟨e0, e1, e2, e3⟩, ef⟩ := row4 hrow5
    have ef3 := ef 3
    have h6 : AI (w5.setCell ⟨b, 3, none⟩ v6) base b v6 ⟨x.b, a.base, a.l.take r ++ [⟨0, ⟨0, 0⟩, ⟨#[]⟩⟩] ++ a.l.drop r⟩ :=
      ⟨heap_setCell_same w5 b 3 _ _ _ hrow5, ho5.keepBut (fun k hk e => heap_setCell_other w5 ⟨b, 3, none⟩ k _ (fun e' => hap6 (e.trans (congrArg some e')))), hap6, h4.lo⟩
    have hx6 : (w5.setCell ⟨b, 3, none⟩ v6).heap[w.heap.size]? = some (.cells #[.int .i64 x.s, .int .i64 x.b.i, .int .i64 x.b.t, .string x.v] 84 (0, 0)) := (heap_setCell_other w5 ⟨b, 3, none⟩ _ _ hbw.symm).trans (hx5.trans HX4.out)
    have hne6 : ¬ fpa b v6 w.heap.size := by
      rintro (e | e)
      · exact hbw e.symm
      · rcases hR5.n _ e with h | h
        · exact HNX.out _ h rfl
        · have := (Array.getElem?_eq_some_iff.1 HX4.out).1; omega
    have hlt6 : r < (a.l.take r ++ [(⟨0, ⟨0, 0⟩, ⟨#[]⟩⟩ : V)] ++ a.l.drop r).length := by simp; omega
    have hset6 : (a.l.take r ++ [(⟨0, ⟨0, 0⟩, ⟨#[]⟩⟩ : V)] ++ a.l.drop r).set r x = a.l.take r ++ [x] ++ a.l.drop r := by
      rw [List.append_assoc, List.set_append_right _ _ (by simp; omega), show r - (a.l.take r).length = 0 by simp; omega]
      simp
    have hfr5 : Fr w4 (fpa b v) w5 (fpa b v6) := ⟨hR5.g.os, hR5.g.tape, hR5.g.output, hR5.g.size, fun k hk hF => hR5.g.block k hk (fun e => hF (.inr e.symm)), fun k hk => by
      rcases hk with e | e
      · exact .inl (.inl e)
      · rcases hR5.n k e with h | h
        · exact .inl (.inr h)
        · exact .inr h⟩
    have hF6 : Fr w (fpa b v) (w5.setCell ⟨b, 3, none⟩ v6) (fpa b v6) ∧ (∀ l2, l2 = (a.l.take r ++ [(⟨0, ⟨0, 0⟩, ⟨#[]⟩⟩ : V)] ++ a.l.drop r).set r x → M.acs a x = ⟨x.b, a.base, l2⟩) ∧ M.acb a x = true :=
      ⟨(HF4.out.trans hfr5).trans (fr_set (Fr.refl _ _) (.inl rfl) 3 v6), fun l2 e => by rw [M.acs_yes HY.out, e, hset6, HSR.out.put_no], HY.out⟩
    clear hins ho5 hr5 hb4 hR5 h4 hb5 hx5 hap6 hrow5 ef hset6 hfr5 HH4 HX4 HF4 c0 c1 c2 c3
    generalize a.l.take r ++ [(⟨0, ⟨0, 0⟩, ⟨#[]⟩⟩ : V)] ++ a.l.drop r = l6 at *
    obtain ⟨W6, HW6⟩ : ∃ W6, Hid (w5.setCell ⟨b, 3, none⟩ v6 = W6) := ⟨_, rfl⟩
    rw [HW6.out] at h6 hx6 hF6
    obtain ⟨g, cap6, N6, hN6, hv6, hgb, hgx, HKI, HKS, HKC, HKT, HQ⟩ := fin_any h6 hx6 hne6 hlt6 hF6
    subst hv6
    obtain rfl := hN6
    have hi6 := hlt6
    have hi7 : (r : Int) < (l6.length : Int) := by omega
    clear h6 hx6 hne6 hF6
    go_wp2_with fail
    rw [HW6.out]
    clear HW6 e0 e1 e2 e3 ef3
    refine wp_region_held_drew (S := fun wq => wq.cell? ⟨b, 3, none⟩ = some (.slice (some ⟨g, 0, none⟩) l6.length cap6) ∧ wq.cell? ⟨w.heap.size, 0, none⟩ = some (.int .i64 x.s) ∧ wq.cell? ⟨w.heap.size, 1, none⟩ = some (.int .i64 x.b.i) ∧ wq.cell? ⟨w.heap.size, 2, none⟩ = some (.int .i64 x.b.t) ∧ wq.cell? ⟨w.heap.size, 3, none⟩ = some (.string x.v)) (by kernel_rfl) HKI.out (fun hHeld => ?_)
    refine wpAnyH_take (i := 0) (oi := ?p0c) (v := ?v0c) ?o0c (by kernel_rfl) (by kernel_rfl) (by kernel_rfl) ?q0c ?y0c hHeld ?r0c
    case o0c => simp only [List.getElem?_toArray, List.getElem?_cons_zero]; rfl
    case q0c => exact fun _ _ _ h => h
    case y0c => (refine Or.inl ⟨rfl, ?_⟩; intro wq hq; obtain ⟨y3, z0, z1, z2, z3⟩ := hq; go_simp; try with_reducible rfl)
    simp only [Act.put, List.setIfInBounds_toArray, List.set_cons_zero, List.set_cons_succ]
    refine wpAnyH_take (i := 1) (oi := ?p1c) (v := ?v1c) ?o1c (by kernel_rfl) (by kernel_rfl) (by kernel_rfl) ?q1c ?y1c hHeld ?r1c
    case o1c => simp only [List.getElem?_toArray, List.getElem?_cons_succ, List.getElem?_cons_zero]; rfl
    case q1c => exact fun _ _ _ h => h
    case y1c => (refine Or.inl ⟨rfl, ?_⟩; intro wq hq; obtain ⟨y3, z0, z1, z2, z3⟩ := hq; go_simp; try with_reducible rfl)
    simp only [Act.put, List.setIfInBounds_toArray, List.set_cons_zero, List.set_cons_succ]
    refine wpAnyH_take (i := 2) (oi := ?p2c) (v := ?v2c) ?o2c (by kernel_rfl) (by kernel_rfl) (by kernel_rfl) ?q2c ?y2c hHeld ?r2c
    case o2c => simp only [List.getElem?_toArray, List.getElem?_cons_succ, List.getElem?_cons_zero]; rfl
    case q2c => exact fun _ _ _ h => h
    case y2c => (refine Or.inl ⟨rfl, ?_⟩; intro wq hq; obtain ⟨y3, z0, z1, z2, z3⟩ := hq; go_simp; try with_reducible rfl)
    simp only [Act.put, List.setIfInBounds_toArray, List.set_cons_zero, List.set_cons_succ]
    refine wpAnyH_take (i := 3) (oi := ?p3c) (v := ?v3c) ?o3c (by kernel_rfl) (by kernel_rfl) (by kernel_rfl) ?q3c ?y3c hHeld ?r3c
    case o3c => simp only [List.getElem?_toArray, List.getElem?_cons_succ, List.getElem?_cons_zero]; rfl
    case q3c => exact fun _ _ _ h => h
    case y3c => (refine Or.inl ⟨rfl, ?_⟩; intro wq hq; obtain ⟨y3, z0, z1, z2, z3⟩ := hq; go_simp; try with_reducible rfl)
    simp only [Act.put, List.setIfInBounds_toArray, List.set_cons_zero, List.set_cons_succ]
    refine wpAnyH_take (i := 4) (oi := ?p4c) (v := ?v4c) ?o4c (by kernel_rfl) (by kernel_rfl) (by kernel_rfl) ?q4c ?y4c hHeld ?r4c
    case o4c => simp only [List.getElem?_toArray, List.getElem?_cons_succ, List.getElem?_cons_zero]; rfl
    case q4c => exact fun _ _ _ h => h
    case y4c => (refine Or.inl ⟨rfl, ?_⟩; intro wq hq; obtain ⟨y3, z0, z1, z2, z3⟩ := hq; go_simp; try with_reducible rfl)
    simp only [Act.put, List.setIfInBounds_toArray, List.set_cons_zero, List.set_cons_succ]
    refine wpAnyH_take (i := 5) (oi := ?p5c) (v := ?v5c) ?o5c (by kernel_rfl) (by kernel_rfl) (by kernel_rfl) ?q5c ?y5c hHeld ?r5c
    case o5c => simp only [List.getElem?_toArray, List.getElem?_cons_succ, List.getElem?_cons_zero]; rfl
    case q5c => exact fun _ _ _ h => h
    case y5c => (refine Or.inl ⟨rfl, ?_⟩; intro wq hq; obtain ⟨y3, z0, z1, z2, z3⟩ := hq; go_simp; try with_reducible rfl)
    simp only [Act.put, List.setIfInBounds_toArray, List.set_cons_zero, List.set_cons_succ]
    refine wpAnyH_ready (rs := [6]) (by kernel_rfl) (by simp) ?_
    refine AllReadyH.cons (o := ?p6c) ?o6c ?s6c AllReadyH.nil
    case o6c => simp only [List.getElem?_toArray, List.getElem?_cons_succ, List.getElem?_cons_zero]; rfl
    intro K hK
    go_simp
    refine (own_any x _ HXS.out).mono ?_
    rintro e w7 ⟨rfl, hb7⟩
    have S7 := HKS.out _ hb7
    have HG7 := Hid_of (HKC.out _ hb7)
    have HQ7 := Hid_of (HQ.out _ hb7)
    clear hb7
    refine hK.out _ _ S7 (fun hHeld => ?_)
    clear hK K
    refine wpAnyH_take (i := 7) (oi := ?p7c) (v := ?v7c) ?o7c (by kernel_rfl) (by kernel_rfl) (by kernel_rfl) ?q7c ?y7c hHeld ?r7c
    case o7c => simp only [List.getElem?_toArray, List.getElem?_cons_succ, List.getElem?_cons_zero]; rfl
    case q7c => exact fun _ _ _ h => h
    case y7c => (refine Or.inl ⟨rfl, ?_⟩; intro wq hq; obtain ⟨y3, z0, z1, z2, z3⟩ := hq; go_simp; try with_reducible rfl)
    simp only [Act.put, List.setIfInBounds_toArray, List.set_cons_zero, List.set_cons_succ]
    refine wpAnyH_ready (rs := [8]) (by kernel_rfl) (by simp) ?_
    refine AllReadyH.cons (o := ?p8c) ?o8c ?s8c AllReadyH.nil
    case o8c => simp only [List.getElem?_toArray, List.getElem?_cons_succ, List.getElem?_cons_zero]; rfl
    intro K hK
    go_simp
    obtain ⟨⟨q0, q1, q2, q3, gc0, gc1, gc2, gc3⟩, gf0, gf1, gf2, gf3⟩ := HG7.out
    go_simp
    refine hK.out _ _ (HKT.out _ hHeld) (fun hHeld => ?_)
    clear hK K
    refine wpAnyH_done (by kernel_rfl) ?_ _
    go_wp2
    go_ret
    exact HQ7.out
end Go.Proofs.Ytgodnpngdbelhaa.Na
