/-
  May what was read be a group?
-/
import Derived.Test.YtacfndfkoiifhaaRG
namespace Go.Proofs.Ytacfndfkoiifhaa
open Go.RowKit
set_option linter.unusedVariables false
open Mb (S)

section
variable {w w' : World} {base b : Nat} {va vb : Value} {s : S}
set_option maxHeartbeats 1000000 in
theorem mayBe_any (h : MI w base b va vb s) (m1 : s.l.length ≤ 1000000) (m2 : s.sp.length ≤ 1000000) : Calls Try.prog 50 #[.pointer (some ⟨b, 0, none⟩)] w fun e w' => e = .returned (.bool (Mb.mb s)) ∧ Below w.heap.size w w' := by
  obtain ⟨al, cl, hl, hxl, _⟩ := h.ol.at
  obtain ⟨az, cz, hs, hxs, _⟩ := h.os.at
  have HAP : Hid (∀ (W : World) (n1 n0 : Nat), Below w.heap.size w W → W.heap[n1]? = some (.cells #[.slice al s.l.length cl, .slice az s.sp.length cz, .slice (some ⟨n0, 0, none⟩) 1 1] 22 (0, 0)) → W.heap[n0]? = some (.cells #[.int .i64 s.gone] 3 (0, 0)) → Calls Try.prog 28 #[.slice (some ⟨n1, 0, none⟩) 3 3] W fun e w' => e = .returned (.bool (Mb.apB (s.l ++ (s.sp ++ [s.gone])))) ∧ Below W.heap.size W w') :=
    Hid_of fun W n1 n0 hW hr h0 => apart3 (l3 := [s.gone]) hr (hxl.at'.keep hW) (hxs.at'.keep hW) (at_int1 h0) (by omega) (by omega) (by simp) rfl
  have HS : Hid (∀ wq, Below w.heap.size w wq → wq.cell? ⟨b, 0, none⟩ = some (.int .i64 s.ep) ∧ wq.cell? ⟨b, 1, none⟩ = some (.int .i64 s.hole) ∧ wq.cell? ⟨b, 2, none⟩ = some (.bool s.fl) ∧ wq.cell? ⟨b, 3, none⟩ = some (.int .i64 s.gone) ∧ wq.cell? ⟨b, 4, none⟩ = some (.slice al s.l.length cl) ∧ wq.cell? ⟨b, 5, none⟩ = some (.slice az s.sp.length cz)) := Hid_of fun wq hq => by
    have := (row6 (h.keep hq).row).1
    rw [hl, hs] at this
    exact this
  have HX := Hid_of hxl.at'
  obtain ⟨c0, c1, c2, c3, c4, c5⟩ := HS.out w (Below.refl _ _)
  clear h hxl hxs hl hs
  by_cases h1 : s.ep < 1
  · have HM : Hid (Mb.mb s = false) := Hid_of (by unfold Mb.mb; rw [if_pos h1])
    have d1 : decide (s.ep < 1) = true := decide_eq_true h1
    clear HAP HX HS h1
    go_enter Try.func50, Try.ntmps50
    go_wp2
    go_ret
    exact ⟨by rw [HM.out]; rfl, Below.refl _ _⟩
  have d1 : decide (s.ep < 1) = false := decide_eq_false h1
  by_cases h2 : s.hole = -1
  · have d2 : (s.hole == -1) = true := beq_iff_eq.2 h2
    cases hf : s.fl with
    | true =>
      have HM : Hid (Mb.mb s = false) := Hid_of (by unfold Mb.mb; rw [if_neg h1, if_pos h2, hf]; rfl)
      rw [hf] at c2
      clear HAP HX HS h1 h2 hf
      go_enter Try.func50, Try.ntmps50
      go_wp2
      go_ret
      exact ⟨by rw [HM.out]; rfl, Below.refl _ _⟩
    | false =>
      have HM : Hid (Mb.mb s = (s.gone == -1)) := Hid_of (by unfold Mb.mb; rw [if_neg h1, if_pos h2, hf]; rfl)
      rw [hf] at c2
      clear HAP HX HS h1 h2 hf
      go_enter Try.func50, Try.ntmps50
      go_wp2
      go_ret
      exact ⟨by rw [HM.out]; rfl, Below.refl _ _⟩
  have d2 : (s.hole == -1) = false := beq_false_of_ne h2
  have HBW : Hid (∀ n, Below w.heap.size w (w.drewN n)) := fun n => below_drewN (Below.refl _ _) n
  by_cases h3 : s.hole < 0
  · have d3 : decide (s.hole < 0) = true := decide_eq_true h3
    have HM : Hid (Mb.mb s = false) := Hid_of (by unfold Mb.mb; rw [if_neg h1, if_neg h2, if_pos (.inl h3)])
    clear HAP HX HS h1 h2 h3
    go_enter Try.func50, Try.ntmps50
    go_wp2_with fail
    go_quiet (fail)
    go_wp2
    go_ret
    exact ⟨by rw [HM.out]; rfl, HBW.out _⟩
  have d3 : decide (s.hole < 0) = false := decide_eq_false h3
  by_cases h4 : (s.l.length : Int) ≤ s.hole
  · have d4 : decide ((s.l.length : Int) ≤ s.hole) = true := decide_eq_true h4
    have HM : Hid (Mb.mb s = false) := Hid_of (by unfold Mb.mb; rw [if_neg h1, if_neg h2, if_pos (.inr h4)])
    clear HAP HX HS h1 h2 h3 h4
    go_enter Try.func50, Try.ntmps50
    go_wp2_with fail
    go_quiet (fail)
    go_wp2
    go_ret
    exact ⟨by rw [HM.out]; rfl, HBW.out _⟩
  have d4 : decide ((s.l.length : Int) ≤ s.hole) = false := decide_eq_false h4
  cases hf : s.fl with
  | true =>
    have HM : Hid (Mb.mb s = Mb.apB (s.l ++ (s.sp ++ [s.gone]))) := Hid_of (by unfold Mb.mb; rw [if_neg h1, if_neg h2, if_neg (by omega), hf]; rfl)
    rw [hf] at c2 HS
    clear HX h1 h2 h3 h4 hf
    go_enter Try.func50, Try.ntmps50
    go_wp2_with fail
    go_quiet (fail)
    go_wp2_with fail
    obtain ⟨wz, hwz⟩ : ∃ wz, w.drewN nq = wz := ⟨_, rfl⟩
    have HZ : Hid (Below w.heap.size w wz) := Hid_of (by rw [← hwz]; exact HBW.out _)
    rw [hwz]
    clear hwz
    refine wp_region_held_drew (S := fun wq => Below w.heap.size w wq) (by kernel_rfl) (Below.drew HZ.out) (fun hHeld => ?_)
    obtain ⟨wdx, hwdx⟩ : ∃ wd, wz.drew = wd := ⟨_, rfl⟩
    have hBwd : Below w.heap.size w wdx := by rw [← hwdx]; exact Below.drew HZ.out
    rw [hwdx] at hHeld ⊢
    clear hwdx
    refine Tm 0 ?p0x ?v0x hHeld ?r0x
    refine Tm 1 ?p1x ?v1x hHeld ?r1x
    refine Tm 2 ?p2x ?v2x hHeld ?r2x
    refine Tk 3 ?p3x ?v3x ?y3x hHeld ?r3x
    case y3x => intro wq hq; obtain ⟨z0, z1, z2, z3, z4, z5⟩ := HS.out wq hq; go_simp; try with_reducible rfl
    refine Tm 4 ?p4x ?v4x hHeld ?r4x
    refine Tm 5 ?p5x ?v5x hHeld ?r5x
    refine Tm 6 ?p6x ?v6x hHeld ?r6x
    refine Tk 7 ?p7x ?v7x ?y7x hHeld ?r7x
    case y7x => intro wq hq; obtain ⟨z0, z1, z2, z3, z4, z5⟩ := HS.out wq hq; go_simp; try with_reducible rfl
    refine Tm 8 ?p8x ?v8x hHeld ?r8x
    refine Tm 9 ?p9x ?v9x hHeld ?r9x
    refine Tm 10 ?p10x ?v10x hHeld ?r10x
    refine Tk 11 ?p11x ?v11x ?y11x hHeld ?r11x
    case y11x => intro wq hq; obtain ⟨z0, z1, z2, z3, z4, z5⟩ := HS.out wq hq; go_simp; try with_reducible rfl
    simp only [Act.put, Pa, Pb, Pc]
    refine Rd 12 ?p12x ?s12x
    intro K hK
    go_simp
    obtain ⟨w9, hw9⟩ : ∃ w9, wdx.alloc (.cells #[.int .i64 s.gone] 3) = w9 := ⟨_, rfl⟩
    have hb9 : Below w.heap.size w w9 := by rw [← hw9]; exact hHeld.alloc hHeld.size _
    have hr9 : w9.heap[wdx.heap.size]? = some (.cells #[.int .i64 s.gone] 3 (0, 0)) := by rw [← hw9]; exact heap_alloc_last wdx _
    obtain ⟨n9, hn9⟩ : ∃ n9, wdx.heap.size = n9 := ⟨_, rfl⟩
    rw [hw9, hn9]
    rw [hn9] at hr9
    clear hw9 hn9
    refine hK.out _ _ hb9 (fun hHeld => ?_)
    clear hK K
    refine Rd 13 ?p13x_12 ?s13x_12
    intro K hK
    go_simp
    obtain ⟨w10, hw10⟩ : ∃ w10, w9.alloc (.cells #[.slice al s.l.length cl, .slice az s.sp.length cz, .slice (some ⟨n9, 0, none⟩) 1 1] 22) = w10 := ⟨_, rfl⟩
    have hb10' : Below w9.heap.size w9 w10 := by rw [← hw10]; exact bel1 w9 _
    have hb10 : Below w.heap.size w w10 := bel_up hb9 hb10' (Nat.le_refl _)
    have hr10 : w10.heap[w9.heap.size]? = some (.cells #[.slice al s.l.length cl, .slice az s.sp.length cz, .slice (some ⟨n9, 0, none⟩) 1 1] 22 (0, 0)) := by rw [← hw10]; exact heap_alloc_last w9 _
    have hap := HAP.out w10 _ n9 hb10 hr10 (bel_row hr9 hb10')
    obtain ⟨n10, hn10⟩ : ∃ n10, w9.heap.size = n10 := ⟨_, rfl⟩
    rw [hw10, hn10]
    rw [hn10] at hap
    clear hw10 hn10 hr10 hr9 hb9 hb10'
    refine hK.out _ _ hb10 (fun hHeld => ?_)
    clear hK K
    refine Rd 14 ?p14x_12_13 ?s14x_12_13
    intro K hK
    go_simp
    refine hap.mono ?_
    rintro e w11 ⟨rfl, hb11⟩
    have hb11' : Below w.heap.size w w11 := bel_up hb10 hb11 (Nat.le_refl _)
    clear hap hb10 hb11
    refine hK.out _ _ hb11' (fun hHeld => ?_)
    clear hK K
    refine Tm 15 ?p15x_12_13_14 ?v15x_12_13_14 hHeld ?r15x_12_13_14
    simp only [Act.put, Pa, Pb, Pc]
    refine wpAnyH_done (by kernel_rfl) ?_ _
    have HB := Hid_of hb11'
    clear hb11'
    go_wp2
    go_ret
    exact ⟨by rw [HM.out]; rfl, HB.out⟩
  | false =>
    obtain ⟨i, hi⟩ : ∃ i : Nat, s.hole = i := Int.eq_ofNat_of_zero_le (by omega)
    have hil : i < s.l.length := by omega
    obtain ⟨g, off, hal, cc⟩ := HX.out.getI i hil
    have HM : Hid (Mb.mb s = (s.gone == s.l[i])) := Hid_of (by unfold Mb.mb; rw [if_neg h1, if_neg h2, if_neg (by omega), hf, hi]; simp [hil])
    rw [hf] at c2
    subst hal
    rw [hi] at c1 d2 d3 d4
    have hii : (i : Int) < (s.l.length : Int) := by omega
    generalize s.l[i] = x at *
    clear HAP HX HS h1 h2 h3 h4 hf hi
    go_enter Try.func50, Try.ntmps50
    go_wp2_with fail
    go_quiet (fail)
    go_wp2_with fail
    go_quiet (fail)
    go_wp2
    go_ret
    exact ⟨by rw [HM.out]; rfl, below_drewN (HBW.out _) _⟩
end
end Go.Proofs.Ytacfndfkoiifhaa
