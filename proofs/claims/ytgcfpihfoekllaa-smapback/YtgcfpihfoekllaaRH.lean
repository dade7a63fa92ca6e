/- Another server at a place. -/
import Derived.Test.YtgcfpihfoekllaaRG

namespace Go.Proofs.Ytgcfpihfoekllaa

open Go.RowKit

set_option linter.unusedVariables false

open Sm (S)

section
variable {w w' : World} {base b : Nat} {v : Value} {es : List E} {n : Int} {F : Nat → Prop} {m : List S}
theorem find_width (h : MI w base b v es n) (i : Int) : ∃ p, (Calls Try.prog 35 #[.pointer (some ⟨b, 0, none⟩), .int .i64 i] w fun e w' => e = .returned (.pointer p) ∧ w' = w) ∧ (Calls Try.prog 64 #[.pointer p] w fun e w' => e = .returned (.int .i64 (Sm.wd (es.map (·.s)) i)) ∧ w' = w) := by
  by_cases hi : i < 0 ∨ (es.length : Int) ≤ i
  · refine ⟨none, find_out h i hi, ?_⟩
    have : Sm.wd (es.map (·.s)) i = 8 := by unfold Sm.wd; rw [Sm.at_out (by simpa using hi)]
    rw [this]
    exact widthN w
  · obtain ⟨k, rfl⟩ := Int.eq_ofNat_of_zero_le (show 0 ≤ i by omega)
    have hk : k < es.length := by omega
    obtain ⟨g, cap, hv, hE, _, _⟩ := h.get k hk
    refine ⟨some ⟨g, k * 6, none⟩, find_in h k hk hv, ?_⟩
    have : Sm.wd (es.map (·.s)) k = es[k].s.l.length := by
      unfold Sm.wd
      obtain ⟨q, e⟩ := Sm.at_in (m := es.map (·.s)) (i := (k : Int)) (by omega) (by simp; omega)
      rw [e]
      simp
    rw [this]
    exact width_in hE
theorem mv_map {k : Nat} (hk : k < es.length) (x : Nat) (y : Int) : (es.set k { es[k] with s := { es[k].s with l := es[k].s.l.set x y } }).map (·.s) = Sm.mv (es.map (·.s)) k x y := by
  rw [set_map hk, Sm.mv_eq (by simpa using hk)]
  simp
set_option maxRecDepth 100000 in
set_option maxHeartbeats 2000000 in
theorem move_any (h : MM w base b F m) (i x y : Int) : Calls Try.prog 29 #[.pointer (some ⟨b, 0, none⟩), .int .i64 i, .int .i64 x, .int .i64 y] w (DdOut w base b F (.int .i64 (Sm.mc m i x y)) (Sm.mm m i x y)) := by
  have HNO : Hid (¬ Sm.mc m i x y = 0 → DdOut w base b F (.int .i64 (Sm.mc m i x y)) (Sm.mm m i x y) (.returned (.int .i64 (Sm.mc m i x y))) w) := Hid_of fun e => by rw [show Sm.mm m i x y = m by unfold Sm.mm; rw [if_neg e]]; exact DdOut.same h _
  obtain ⟨v, es, rfl, hM, rfl, hG⟩ := h
  have hs := isServer_any y w
  rcases Sm.mc_cases (es.map (·.s)) i x y with ⟨h1, k0⟩ | ⟨h0, h1, h2, hc⟩
  · obtain ⟨p, hf, hw⟩ := find_width hM i
    have HQ := Hid_of (HNO.out (by rw [k0]; decide))
    rw [k0] at HQ ⊢
    clear HNO hM hG k0
    generalize Sm.wd (es.map (·.s)) i = wi at *
    by_cases q0 : x < 0
    · have d0 : decide (x < 0) = true := decide_eq_true q0
      clear h1 hs hw q0
      go_enter Try.func29, Try.ntmps29
      go_wp2_with fail
      refine hf.mono ?_
      rintro e w1 ⟨rfl, hw1⟩
      subst w1
      clear hf
      go_wp2
      go_ret
      exact HQ.out
    have d0 : decide (x < 0) = false := decide_eq_false q0
    by_cases q1 : wi ≤ x
    · have d1 : decide (wi ≤ x) = true := decide_eq_true q1
      clear h1 hs q1 q0
      go_enter Try.func29, Try.ntmps29
      go_wp2_with fail
      refine hf.mono ?_
      rintro e w1 ⟨rfl, hw1⟩
      subst w1
      clear hf
      go_wp2_with fail
      refine hw.mono ?_
      rintro e w1 ⟨rfl, hw1⟩
      subst w1
      clear hw
      go_wp2
      go_ret
      exact HQ.out
    have d1 : decide (wi ≤ x) = false := decide_eq_false q1
    rw [decide_eq_false (show ¬ (0 ≤ y ∧ y ≤ 63) by omega)] at hs
    clear h1 q1 q0
    go_enter Try.func29, Try.ntmps29
    go_wp2_with fail
    refine hf.mono ?_
    rintro e w1 ⟨rfl, hw1⟩
    subst w1
    clear hf
    go_wp2_with fail
    refine hw.mono ?_
    rintro e w1 ⟨rfl, hw1⟩
    subst w1
    clear hw
    go_wp2_with fail
    refine hs.mono ?_
    rintro e w1 ⟨rfl, hw1⟩
    subst w1
    clear hs
    go_wp2
    go_ret
    exact HQ.out
  have d0 : decide (x < 0) = false := decide_eq_false (by omega)
  have d1 : decide (Sm.wd (es.map (·.s)) i ≤ x) = false := decide_eq_false (by omega)
  rw [decide_eq_true h2] at hs
  rcases hc with ⟨hi, k0, k1⟩ | ⟨hk, hi0, hi1, hwd, hc⟩
  · have hf := find_out hM i (by simpa using hi)
    have hw := widthN w
    have HQ := Hid_of (HNO.out (by rw [k1]; decide))
    rw [k1] at HQ ⊢
    rw [k0] at d1
    clear HNO hM hG k0 k1 hi h0 h1 h2
    go_enter Try.func29, Try.ntmps29
    go_wp2_with fail
    refine hf.mono ?_
    rintro e w1 ⟨rfl, hw1⟩
    subst w1
    clear hf
    go_wp2_with fail
    refine hw.mono ?_
    rintro e w1 ⟨rfl, hw1⟩
    subst w1
    clear hw
    go_wp2_with fail
    refine hs.mono ?_
    rintro e w1 ⟨rfl, hw1⟩
    subst w1
    clear hs
    go_wp2
    go_ret
    exact HQ.out
  · obtain ⟨k, rfl⟩ := Int.eq_ofNat_of_zero_le hi0
    simp only [Int.toNat_natCast, List.length_map, List.getElem_map] at hk hc hi1 hwd
    have hk2 : k < es.length := by omega
    obtain ⟨g, cap, hv, hE, _, hgb⟩ := hM.get k hk2
    have hf := find_in hM k hk2 hv
    have hw := width_in hE
    obtain ⟨c0, c1, c2, c3, c4, c5⟩ := hE
    have hsv := hM.sv _ (List.getElem_mem hk2)
    have hl8 := (hG.get (i := k) (by simpa using hk2)).2.2.2.2.2.2.1
    simp only [List.getElem_map] at hl8
    have hix := index_any es[k].a es[k].c es[k].s.l y w (by omega) hsv.at
    rw [hwd] at d1 h1
    rcases hc with ⟨p0, p1, k1⟩ | ⟨hp, hc⟩
    · have d2 : decide ((0 : Int) ≤ Mb.pl es[k].s.l y) = true := decide_eq_true p0
      have d3 : (Mb.pl es[k].s.l y != x) = true := by simpa using p1
      have d3' : (Mb.pl es[k].s.l y == x) = false := by simpa using p1
      have HQ := Hid_of (HNO.out (by rw [k1]; decide))
      rw [k1] at HQ ⊢
      clear HNO hM hG k1 p0 p1 h0 h1 h2 hsv hl8 hwd
      generalize Mb.pl es[k].s.l y = pv at *
      generalize es[k] = e at *
      go_enter Try.func29, Try.ntmps29
      go_wp2_with fail
      refine hf.mono ?_
      rintro e w1 ⟨rfl, hw1⟩
      subst w1
      clear hf
      go_wp2_with fail
      refine hw.mono ?_
      rintro e w1 ⟨rfl, hw1⟩
      subst w1
      clear hw
      go_wp2_with fail
      refine hs.mono ?_
      rintro e w1 ⟨rfl, hw1⟩
      subst w1
      clear hs
      go_wp2_with fail
      refine hix.mono ?_
      rintro e w1 ⟨rfl, hw1⟩
      subst w1
      clear hix
      go_wp2
      go_ret
      exact HQ.out
    · obtain ⟨q, hq⟩ : ∃ q, decide ((0 : Int) ≤ Mb.pl es[k].s.l y) = q := ⟨_, rfl⟩
      have HD : Hid (q = true → (Mb.pl es[k].s.l y != x) = false ∧ (Mb.pl es[k].s.l y == x) = true) := Hid_of fun e => by
        rw [← hq] at e
        have e := of_decide_eq_true e
        have : Mb.pl es[k].s.l y = x := by omega
        simp [this]
      rcases hc with ⟨k3, k1⟩ | ⟨k3, k1⟩
      · have d4 : (es[k].s.st == 3) = true := by simpa using k3
        have HQ := Hid_of (HNO.out (by rw [k1]; decide))
        rw [k1] at HQ ⊢
        clear HNO hM hG k1 k3 hp h0 h1 h2 hsv hl8 hwd
        generalize Mb.pl es[k].s.l y = pv at *
        generalize es[k] = e at *
        cases q
        · clear HD
          go_enter Try.func29, Try.ntmps29
          go_wp2_with fail
          refine hf.mono ?_
          rintro e w1 ⟨rfl, hw1⟩
          subst w1
          clear hf
          go_wp2_with fail
          refine hw.mono ?_
          rintro e w1 ⟨rfl, hw1⟩
          subst w1
          clear hw
          go_wp2_with fail
          refine hs.mono ?_
          rintro e w1 ⟨rfl, hw1⟩
          subst w1
          clear hs
          go_wp2_with fail
          refine hix.mono ?_
          rintro e w1 ⟨rfl, hw1⟩
          subst w1
          clear hix
          go_wp2
          go_ret
          exact HQ.out
        · obtain ⟨d3, d3'⟩ := HD.out rfl
          clear HD
          go_enter Try.func29, Try.ntmps29
          go_wp2_with fail
          refine hf.mono ?_
          rintro e w1 ⟨rfl, hw1⟩
          subst w1
          clear hf
          go_wp2_with fail
          refine hw.mono ?_
          rintro e w1 ⟨rfl, hw1⟩
          subst w1
          clear hw
          go_wp2_with fail
          refine hs.mono ?_
          rintro e w1 ⟨rfl, hw1⟩
          subst w1
          clear hs
          go_wp2_with fail
          refine hix.mono ?_
          rintro e w1 ⟨rfl, hw1⟩
          subst w1
          clear hix
          go_wp2
          go_ret
          exact HQ.out
      · have d4 : (es[k].s.st == 3) = false := by simpa using k3
        obtain ⟨j, rfl⟩ := Int.eq_ofNat_of_zero_le h0
        have hj : j < es[k].s.l.length := by omega
        obtain ⟨gs, hgs⟩ := hsv.1
        obtain ⟨hm, hfr⟩ := hM.setsv hk2 hj hgs y
        have hk3 : k < (es.map (·.s)).length := by simpa using hk2
        have HL : Hid (DdOut w base b (fpm b v es) (.int .i64 0) (Sm.mm (es.map (·.s)) k j y) (.returned (.int .i64 0)) (w.setCell ⟨gs, j, none⟩ (.int .i64 y))) := Hid_of ⟨rfl, _, ⟨v, _, rfl, by
          have : Sm.live (Sm.mm (es.map (·.s)) k j y) = Sm.live (es.map (·.s)) := by unfold Sm.mm; rw [k1, if_pos rfl]; exact Sm.live_mv hk3 _ _
          rw [this]; exact hm, by rw [mv_map hk2]; unfold Sm.mm; rw [k1, if_pos rfl]; rfl, hG.move k j y⟩, by rw [fpm_set (b := b) (v := v) hk2 (e := { es[k] with s := { es[k].s with l := es[k].s.l.set j y } }) rfl]; exact hfr⟩
        obtain ⟨g', cap', hv', _, _, hcell, hfz, _⟩ := hsv.2.set1 j hj 0 (by decide)
        have e : g' = gs := by rw [hgs] at hv'; simp only [Value.slice.injEq, Option.some.injEq, Addr.mk.injEq] at hv'; exact hv'.1.1.symm
        subst e
        have fz := hfz j
        rw [show j * il.n + 0 = j by simp [il]] at hcell
        simp only [il] at hcell
        rw [hgs] at c5 hix
        have hji : (j : Int) < (es[k].s.l.length : Int) := by omega
        rw [k1]
        clear HNO hM hG k1 k3 hp h0 h1 h2 hsv hl8 hwd hm hfr hfz hv' hgs
        generalize Mb.pl es[k].s.l y = pv at *
        generalize es[k] = e at *
        cases q
        · clear HD
          go_enter Try.func29, Try.ntmps29
          go_wp2_with fail
          refine hf.mono ?_
          rintro e w1 ⟨rfl, hw1⟩
          subst w1
          clear hf
          go_wp2_with fail
          refine hw.mono ?_
          rintro e w1 ⟨rfl, hw1⟩
          subst w1
          clear hw
          go_wp2_with fail
          refine hs.mono ?_
          rintro e w1 ⟨rfl, hw1⟩
          subst w1
          clear hs
          go_wp2_with fail
          refine hix.mono ?_
          rintro e w1 ⟨rfl, hw1⟩
          subst w1
          clear hix
          go_wp2
          go_ret
          exact HL.out
        · obtain ⟨d3, d3'⟩ := HD.out rfl
          clear HD
          go_enter Try.func29, Try.ntmps29
          go_wp2_with fail
          refine hf.mono ?_
          rintro e w1 ⟨rfl, hw1⟩
          subst w1
          clear hf
          go_wp2_with fail
          refine hw.mono ?_
          rintro e w1 ⟨rfl, hw1⟩
          subst w1
          clear hw
          go_wp2_with fail
          refine hs.mono ?_
          rintro e w1 ⟨rfl, hw1⟩
          subst w1
          clear hs
          go_wp2_with fail
          refine hix.mono ?_
          rintro e w1 ⟨rfl, hw1⟩
          subst w1
          clear hix
          go_wp2
          go_ret
          exact HL.out
end

end Go.Proofs.Ytgcfpihfoekllaa
