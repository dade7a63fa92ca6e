/-
  A vote is accepted by an acceptor.
-/
import Derived.Test.YtfjlanhekheecaaAQ
namespace Go.Proofs.Ytfjlanhekheecaa.Na
open Go.RowKit
set_option linter.unusedVariables false
open Go.Proofs.Ytfjlanhekheecaa.M (E V)

/-- Four cells of a block set, from one on. -/
def putO (w : World) (g o : Nat) (a b c d : Value) : World := (((w.setCell ⟨g, o, none⟩ a).setCell ⟨g, o + 1, none⟩ b).setCell ⟨g, o + 2, none⟩ c).setCell ⟨g, o + 3, none⟩ d
theorem putO_oth {w : World} {g k o : Nat} (h : k ≠ g) (a b c d : Value) : (putO w g o a b c d).heap[k]? = w.heap[k]? := by
  unfold putO
  rw [heap_setCell_other _ ⟨g, o + 3, none⟩ k _ h, heap_setCell_other _ ⟨g, o + 2, none⟩ k _ h, heap_setCell_other _ ⟨g, o + 1, none⟩ k _ h, heap_setCell_other _ ⟨g, o, none⟩ k _ h]
theorem _root_.Go.Proofs.Ytfjlanhekheecaa.OwnL.setV {w : World} {base : Nat} {v : Value} {l : List V} (h : OwnL vl 42 w base v l) (i : Nat) (hi : i < l.length) (x : V) :
    ∃ g cap, v = .slice (some ⟨g, 0, none⟩) l.length cap ∧ base ≤ g ∧ g < w.heap.size ∧ (∃ a b c d, w.cell? ⟨g, i * 4, none⟩ = some a ∧ w.cell? ⟨g, i * 4 + 1, none⟩ = some b ∧ w.cell? ⟨g, i * 4 + 2, none⟩ = some c ∧ w.cell? ⟨g, i * 4 + 3, none⟩ = some d) ∧ (∀ j, w.frozen? ⟨g, j, none⟩ = false) ∧ OwnL vl 42 (putO w g (i * 4) (.int .i64 x.s) (.int .i64 x.b.i) (.int .i64 x.b.t) (.string x.v)) base v (l.set i x) := by
  obtain ⟨g, cap, hv, hb, hlt, k0, hf, h0⟩ := h.set1 i hi 0 (by decide)
  obtain ⟨_, _, hv1, _, _, k1, _, _⟩ := h.set1 i hi 1 (by decide)
  obtain ⟨_, _, hv2, _, _, k2, _, _⟩ := h.set1 i hi 2 (by decide)
  obtain ⟨_, _, hv3, _, _, k3, _, _⟩ := h.set1 i hi 3 (by decide)
  rw [hv] at hv1 hv2 hv3
  simp only [Value.slice.injEq, Option.some.injEq, Addr.mk.injEq, and_true] at hv1 hv2 hv3
  obtain ⟨rfl, _⟩ := hv1
  obtain ⟨rfl, _⟩ := hv2
  obtain ⟨rfl, _⟩ := hv3
  refine ⟨g, cap, hv, hb, hlt, ⟨_, _, _, _, k0, k1, k2, k3⟩, hf, ?_⟩
  have H0 := h0 ⟨x.s, l[i].b, l[i].v⟩ (.int .i64 x.s) rfl
  obtain ⟨g1, _, hv1, _, _, _, _, h1⟩ := H0.set1 i (by simpa using hi) 1 (by decide)
  have H1 := h1 ⟨x.s, ⟨x.b.i, l[i].b.t⟩, l[i].v⟩ (.int .i64 x.b.i) (by rw [List.getElem_set_self]; rfl)
  rw [List.set_set] at H1
  obtain ⟨g2, _, hv2, _, _, _, _, h2⟩ := H1.set1 i (by simpa using hi) 2 (by decide)
  have H2 := h2 ⟨x.s, ⟨x.b.i, x.b.t⟩, l[i].v⟩ (.int .i64 x.b.t) (by rw [List.getElem_set_self]; rfl)
  rw [List.set_set] at H2
  obtain ⟨g3, _, hv3, _, _, _, _, h3⟩ := H2.set1 i (by simpa using hi) 3 (by decide)
  have H3 := h3 x (.string x.v) (by rw [List.getElem_set_self]; rfl)
  rw [List.set_set] at H3
  rw [hv] at hv1 hv2 hv3
  simp only [Value.slice.injEq, Option.some.injEq, Addr.mk.injEq, and_true] at hv1 hv2 hv3
  obtain ⟨rfl, _⟩ := hv1
  obtain ⟨rfl, _⟩ := hv2
  obtain ⟨rfl, _⟩ := hv3
  exact H3
/-- What an Accept leaves. -/
def AcOut (w : World) (base b : Nat) (v : Value) (a : M.S) (x : V) (e : Ending) (w' : World) : Prop :=
  ∃ v', e = .returned (.bool (M.acb a x)) ∧ AI w' base b v' (M.acs a x) ∧ Fr w (fpa b v) w' (fpa b v')
set_option maxRecDepth 100000 in
set_option maxHeartbeats 1000000 in
theorem accept_no {w : World} {base b : Nat} {v : Value} {a : M.S} (h : AI w base b v a) (x : V) (hno : M.acb a x = false) : Calls Try.prog 67 #[.pointer (some ⟨b, 0, none⟩), vV x] w (AcOut w base b v a x) := by
  obtain ⟨W1, HW1⟩ : ∃ W1, Hid (w.alloc (.cells #[.int .i64 x.s, .int .i64 x.b.i, .int .i64 x.b.t, .string x.v] 42) = W1) := ⟨_, rfl⟩
  have hb1 : Below w.heap.size w W1 := by rw [← HW1.out]; exact bel1 w _
  have hr1 : W1.heap[w.heap.size]? = some (.cells #[.int .i64 x.s, .int .i64 x.b.i, .int .i64 x.b.t, .string x.v] 42 (0, 0)) := by rw [← HW1.out]; exact heap_alloc_last w _
  have h1 := h.keep hb1
  have hm := may_any h1 x.b
  obtain ⟨⟨z0, z1, z2, z3⟩, _⟩ := row4 hr1
  have HR1 := Hid_of hr1
  have HH1 := Hid_of h1
  have HB1 := Hid_of hb1
  have HQ : Hid (∀ w', Below w.heap.size w w' → AcOut w base b v a x (.returned (.bool false)) w') := fun w' hb => ⟨v, by rw [hno], by rw [M.acs_no hno]; exact h.keep hb, Fr.ofBelow hb⟩
  have HA : Hid ((M.may a x.b && decide (a.base ≤ x.s) && decide (x.s < 1024) && decide (x.v.size ≤ 4096)) = false) := hno
  clear h h1 hb1 hr1 hno
  cases hmx : M.may a x.b with
  | false =>
    rw [hmx] at hm
    clear hmx HA
    go_enter Try.func67, Try.ntmps67
    go_upto_region 1 with fail
    rw [HW1.out]
    go_wp2_with fail
    refine hm.mono ?_
    rintro e w2 ⟨rfl, hb2⟩
    have HB2 := Hid_of (bel_up HB1.out hb2 (Nat.le_refl _))
    obtain ⟨⟨y0, y1, y2, y3⟩, _⟩ := row4 (bel_row HR1.out hb2)
    clear hb2 hm
    go_wp2
    go_ret
    exact HQ.out _ HB2.out
  | true =>
    rw [hmx] at hm
    by_cases hsl : a.base ≤ x.s ∧ x.s < 1024
    · have hsz : 4096 < x.v.size := by
        have := HA.out
        rw [hmx, decide_eq_true hsl.1, decide_eq_true hsl.2] at this
        simpa using this
      have hsd : (decide (a.base ≤ x.s) && decide (x.s < 1024)) = true := by rw [decide_eq_true hsl.1, decide_eq_true hsl.2]; rfl
      have d0 : decide ((4096 : Int) < (x.v.size : Int)) = true := decide_eq_true (by omega)
      clear hmx HA hsl hsz
      go_enter Try.func67, Try.ntmps67
      go_upto_region 1 with fail
      rw [HW1.out]
      go_wp2_with fail
      refine hm.mono ?_
      rintro e w2 ⟨rfl, hb2⟩
      have HB2 := Hid_of (bel_up HB1.out hb2 (Nat.le_refl _))
      obtain ⟨⟨y0, y1, y2, y3⟩, _⟩ := row4 (bel_row HR1.out hb2)
      have hs := hasSlot_any (HH1.out.keep hb2) x.s
      rw [hsd] at hs
      clear hb2 hm hsd
      go_wp2_with fail
      refine hs.mono ?_
      rintro e w3 ⟨rfl, rfl⟩
      clear hs
      go_wp2
      go_ret
      exact HQ.out _ HB2.out
    · have hsd : (decide (a.base ≤ x.s) && decide (x.s < 1024)) = false := by
        cases hq : (decide (a.base ≤ x.s) && decide (x.s < 1024)) with
        | false => rfl
        | true => exact absurd (by simpa using hq) hsl
      clear hmx HA hsl
      go_enter Try.func67, Try.ntmps67
      go_upto_region 1 with fail
      rw [HW1.out]
      go_wp2_with fail
      refine hm.mono ?_
      rintro e w2 ⟨rfl, hb2⟩
      have HB2 := Hid_of (bel_up HB1.out hb2 (Nat.le_refl _))
      obtain ⟨⟨y0, y1, y2, y3⟩, _⟩ := row4 (bel_row HR1.out hb2)
      have hs := hasSlot_any (HH1.out.keep hb2) x.s
      rw [hsd] at hs
      clear hb2 hm hsd
      go_wp2_with fail
      refine hs.mono ?_
      rintro e w3 ⟨rfl, rfl⟩
      clear hs
      go_wp2
      go_ret
      exact HQ.out _ HB2.out
end Go.Proofs.Ytfjlanhekheecaa.Na
