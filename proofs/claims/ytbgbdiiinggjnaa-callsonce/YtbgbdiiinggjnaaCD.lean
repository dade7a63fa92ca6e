/-
  What a call is refused for; a call.
-/
import Derived.Test.YtbgbdiiinggjnaaCC
namespace Go.Proofs.Ytbgbdiiinggjnaa
open Go.RowKit
set_option linter.unusedVariables false
open M (E)
open Cl (K W Ms fup)

theorem ccode0 {n : Nat} {next x len now : Int} (h : Cl.ccode n next x len now = 0) : len ≤ 4096 ∧ n < 64 ∧ next < 2147483647 ∧ 0 ≤ x ∧ x ≤ 63 ∧ Cl.moment now = true := by
  unfold Cl.ccode at h
  split at h
  · omega
  · rename_i h1
    split at h
    · omega
    · rename_i h2
      split at h
      · omega
      · rename_i h3
        refine ⟨by omega, by omega, by omega, by omega, by omega, ?_⟩
        cases hm : Cl.moment now
        · exact absurd (.inr (.inr hm)) h1
        · rfl
theorem mayCall_nil (x : Int) (s : ByteArray) (now : Int) (w : World) : Calls Try.prog 27 #[.pointer none, .int .i64 x, .string s, .int .i64 now] w fun e w' => e = .returned (.int .i64 1) ∧ w' = w := by
  go_enter Try.func27, Try.ntmps27
  go_wp2
  go_ret
  exact ⟨rfl, rfl⟩
set_option maxHeartbeats 1000000 in
theorem mayCall_any {w : World} {base b bt m : Nat} {vt vo : Value} {n : Nat} {me next : Int} {O : List W} {P : List E} {f : Int → Option (Int × ByteArray)} (h : CI w base b bt m vt vo n me next O P f) (hl : O.length ≤ 64) (x : Int) (s : ByteArray) (hs : s.size ≤ maxLen) (now : Int) :
    Calls Try.prog 27 #[.pointer (some ⟨b, 0, none⟩), .int .i64 x, .string s, .int .i64 now] w fun e w' => e = .returned (.int .i64 (Cl.ccode O.length next x s.size now)) ∧ w' = w := by
  obtain ⟨⟨c0, c1, c2, c3, c4⟩, _⟩ := h.cells
  obtain ⟨a, cap, rfl, _⟩ := h.own.at
  have hm := isMoment_any now
  unfold maxLen at hs
  clear h
  by_cases h1 : x < 0
  · have HC : Hid (Cl.ccode O.length next x s.size now = 1) := Hid_of (if_pos (.inl h1))
    go_enter Try.func27, Try.ntmps27
    go_wp2
    go_ret
    rw [HC.out]
    exact ⟨rfl, rfl⟩
  by_cases h2 : 63 < x
  · have HC : Hid (Cl.ccode O.length next x s.size now = 1) := Hid_of (if_pos (.inr (.inl h2)))
    go_enter Try.func27, Try.ntmps27
    go_wp2
    go_ret
    rw [HC.out]
    exact ⟨rfl, rfl⟩
  cases h3 : Cl.moment now with
  | false =>
    have HC : Hid (Cl.ccode O.length next x s.size now = 1) := Hid_of (if_pos (.inr (.inr h3)))
    rw [h3] at hm
    clear h3
    go_enter Try.func27, Try.ntmps27
    go_wp2_with fail
    refine (hm _).mono ?_
    rintro e w1 ⟨rfl, rfl⟩
    go_wp2
    go_ret
    rw [HC.out]
    exact ⟨rfl, rfl⟩
  | true =>
    rw [h3] at hm
    have HC0 : Hid (Cl.ccode O.length next x s.size now = if 4096 < (s.size : Int) then 2 else if 64 ≤ O.length ∨ 2147483647 ≤ next then 5 else 0) := Hid_of (if_neg (by rw [h3]; simp; omega))
    clear h3
    by_cases h4 : 4096 < s.size
    · have HC : Hid (Cl.ccode O.length next x s.size now = 2) := by rw [HC0.out]; exact if_pos (by omega)
      have d4 : decide ((4096 : Int) < (s.size : Int)) = true := decide_eq_true (by omega)
      clear HC0 h4
      go_enter Try.func27, Try.ntmps27
      go_wp2_with fail
      refine (hm _).mono ?_
      rintro e w1 ⟨rfl, rfl⟩
      go_wp2
      go_ret
      rw [HC.out]
      exact ⟨rfl, rfl⟩
    have d4 : decide ((4096 : Int) < (s.size : Int)) = false := decide_eq_false (by omega)
    by_cases h5 : 64 ≤ O.length
    · have HC : Hid (Cl.ccode O.length next x s.size now = 5) := by rw [HC0.out, if_neg (by omega)]; exact if_pos (.inl h5)
      have d5 : decide ((64 : Int) ≤ (O.length : Int)) = true := decide_eq_true (by omega)
      clear HC0 h4 h5
      go_enter Try.func27, Try.ntmps27
      go_wp2_with fail
      refine (hm _).mono ?_
      rintro e w1 ⟨rfl, rfl⟩
      go_wp2
      go_ret
      rw [HC.out]
      exact ⟨rfl, rfl⟩
    have d5 : decide ((64 : Int) ≤ (O.length : Int)) = false := decide_eq_false (by omega)
    by_cases h6 : 2147483647 ≤ next
    · have HC : Hid (Cl.ccode O.length next x s.size now = 5) := by rw [HC0.out, if_neg (by omega)]; exact if_pos (.inr h6)
      clear HC0 h4 h5
      go_enter Try.func27, Try.ntmps27
      go_wp2_with fail
      refine (hm _).mono ?_
      rintro e w1 ⟨rfl, rfl⟩
      go_wp2
      go_ret
      rw [HC.out]
      exact ⟨rfl, rfl⟩
    · have HC : Hid (Cl.ccode O.length next x s.size now = 0) := by rw [HC0.out, if_neg (by omega)]; exact if_neg (by omega)
      clear HC0 h4 h5
      go_enter Try.func27, Try.ntmps27
      go_wp2_with fail
      refine (hm _).mono ?_
      rintro e w1 ⟨rfl, rfl⟩
      go_wp2
      go_ret
      rw [HC.out]
      exact ⟨rfl, rfl⟩
theorem call_nil (x : Int) (s : ByteArray) (now : Int) (w : World) : Calls Try.prog 12 #[.pointer none, .int .i64 x, .string s, .int .i64 now] w fun e w' => e = .returned (.tuple #[.int .i64 0, .int .i64 1]) ∧ w' = w := by
  go_enter Try.func12, Try.ntmps12
  go_wp2_with fail
  refine (mayCall_nil _ _ _ _).mono ?_
  rintro e w1 ⟨rfl, rfl⟩
  go_wp2
  go_ret2
  exact ⟨rfl, rfl⟩
theorem call_no {w : World} {base b bt m : Nat} {vt vo : Value} {n : Nat} {me next : Int} {O : List W} {P : List E} {f : Int → Option (Int × ByteArray)} (h : CI w base b bt m vt vo n me next O P f) (hl : O.length ≤ 64) (x : Int) (s : ByteArray) (hs : s.size ≤ maxLen) (now : Int) (hc : Cl.ccode O.length next x s.size now ≠ 0) :
    Calls Try.prog 12 #[.pointer (some ⟨b, 0, none⟩), .int .i64 x, .string s, .int .i64 now] w fun e w' => e = .returned (.tuple #[.int .i64 0, .int .i64 (Cl.ccode O.length next x s.size now)]) ∧ w' = w := by
  have hm := mayCall_any h hl x s hs now
  generalize Cl.ccode O.length next x s.size now = cc at *
  have d1 : (cc != 0) = true := by simpa using hc
  have d2 : (cc == 0) = false := by simpa using hc
  clear h
  go_enter Try.func12, Try.ntmps12
  go_wp2_with fail
  refine hm.mono ?_
  rintro e w1 ⟨rfl, rfl⟩
  go_wp2
  go_ret2
  exact ⟨rfl, rfl⟩
set_option maxRecDepth 100000 in
set_option maxHeartbeats 1000000 in
theorem call_yes {w : World} {base b bt m : Nat} {vt vo : Value} {n : Nat} {me next : Int} {O : List W} {P : List E} {f : Int → Option (Int × ByteArray)} (h : CI w base b bt m vt vo n me next O P f) (hb : base ≤ w.heap.size) (hl : O.length ≤ 64) (hn0 : 0 ≤ next) (hn1 : next ≤ 2147483647) (x : Int) (s : ByteArray) (hs : s.size ≤ maxLen) (now : Int) (hc : Cl.ccode O.length next x s.size now = 0) :
    Calls Try.prog 12 #[.pointer (some ⟨b, 0, none⟩), .int .i64 x, .string s, .int .i64 now] w (COut w base b bt m vt vo n me (next + 1) (O ++ [⟨me, x, next, 0, s⟩]) (M.setL P next now) f (.tuple #[.int .i64 next, .int .i64 0])) := by
  have hm := mayCall_any h hl x s hs now
  rw [hc] at hm
  obtain ⟨⟨c0, c1, c2, c3, c4⟩, cf⟩ := h.cells
  have f1 := cf 1
  obtain ⟨hX1, hF1⟩ := h.nexted (next + 1)
  obtain ⟨w1, HW1⟩ : ∃ w1, Hid (w.setCell ⟨b, 1, none⟩ (.int .i64 (next + 1)) = w1) := ⟨_, rfl⟩
  rw [HW1.out] at hX1 hF1
  have hadd : IntKind.i64.wrap (next + 1) = next + 1 := by rw [IntKind.wrap_i64]; omega
  have hcl := fun W => sclone_any s W (by have := (ccode0 hc).1; omega)
  have HX1 := Hid_of hX1
  have HF1 := Hid_of hF1
  obtain ⟨⟨d0, d1, d2, d3, d4⟩, df⟩ := hX1.cells
  obtain ⟨a, cap, hv, _⟩ := hX1.own.at
  have hs1 := hF1.size
  clear h hX1 hF1 cf df hs
  subst hv
  go_enter Try.func12, Try.ntmps12
  go_wp2_with fail
  refine hm.mono ?_
  rintro e w0 ⟨rfl, rfl⟩
  go_upto_region 6 with fail
  rw [HW1.out]
  clear c0 c1 c2 c3 c4 f1 hm hc
  obtain ⟨wd, hwd⟩ : ∃ wd, w1.drew = wd := ⟨_, rfl⟩
  have bd : Below w1.heap.size w1 wd := by rw [← hwd]; exact (Below.refl _ _).drew
  have HRUN : Hid (∀ w3, Below wd.heap.size wd w3 → (w3.cell? ⟨b, 0, none⟩ = some (.int .i64 me) ∧ w3.cell? ⟨b, 3, none⟩ = some (.slice a O.length cap)) ∧ ((w3.alloc (.cells #[.int .i64 me, .int .i64 x, .int .i64 next, .int .i64 0, .string s] 74)).cell? ⟨b, 0, none⟩ = some (.int .i64 me) ∧ (w3.alloc (.cells #[.int .i64 me, .int .i64 x, .int .i64 next, .int .i64 0, .string s] 74)).cell? ⟨b, 3, none⟩ = some (.slice a O.length cap)) ∧ ∃ a' c' w4, (∀ ty, (Builtin.append_ #[64, 64] ty #[.slice a O.length cap, .slice (some ⟨w3.heap.size, 0, none⟩) 1 1]).run Try.prog (w3.alloc (.cells #[.int .i64 me, .int .i64 x, .int .i64 next, .int .i64 0, .string s] 74)) = .ok (.slice a' (O.length + 1) c') w4) ∧ (w4.cell? ⟨b, 0, none⟩ = some (.int .i64 me) ∧ w4.cell? ⟨b, 3, none⟩ = some (.slice a O.length cap) ∧ w4.frozen? ⟨b, 3, none⟩ = false) ∧ ∃ W5, w4.setCell ⟨b, 3, none⟩ (.slice a' (O.length + 1) c') = W5 ∧ CI W5 base b bt m vt (.slice a' (O.length + 1) c') n me (next + 1) (O ++ [⟨me, x, next, 0, s⟩]) P f ∧ Fr w0 (fpc b bt m vt (.slice a O.length cap)) W5 (fpc b bt m vt (.slice a' (O.length + 1) c'))) := by
    intro w3 hb3
    have hB3 := bel_up bd hb3 (Nat.le_refl _)
    have hX3 := HX1.out.keep hB3
    have hX3' := hX3.keep (bel1 w3 (.cells #[.int .i64 me, .int .i64 x, .int .i64 next, .int .i64 0, .string s] 74))
    obtain ⟨⟨e0, e1, e2, e3, e4⟩, _⟩ := hX3.cells
    obtain ⟨⟨g0, g1, g2, g3, g4⟩, _⟩ := hX3'.cells
    have hsz := hB3.size
    have hat : AtL wl (w3.alloc (.cells #[.int .i64 me, .int .i64 x, .int .i64 next, .int .i64 0, .string s] 74)) (some ⟨w3.heap.size, 0, none⟩) [(⟨me, x, next, 0, s⟩ : W)] := atL_one (t := 74) (heap_alloc_last w3 _)
    obtain ⟨a', c', w4, hrun, ho, hr⟩ := run_appL_ty tiW (w3.alloc (.cells #[.int .i64 me, .int .i64 x, .int .i64 next, .int .i64 0, .string s] 74)) base (.slice a O.length cap) O [⟨me, x, next, 0, s⟩] w3.heap.size 0 1 1 hX3'.own hat rfl (by simp; omega) (by simp; omega)
    obtain ⟨⟨k0, k1, k2, k3, k4⟩, kf⟩ := hX3'.row1 hr
    obtain ⟨hX5, hF5⟩ := hX3'.rowed hr ho
    exact ⟨⟨e0, e3⟩, ⟨g0, g3⟩, a', c', w4, hrun, ⟨k0, k3, kf 3⟩, _, rfl, hX5, (HF1.out.up hB3).trans ((Fr.ofBelow (bel1 w3 (.cells #[.int .i64 me, .int .i64 x, .int .i64 next, .int .i64 0, .string s] 74))).trans hF5)⟩
  have hd : wd.cell? ⟨b, 3, none⟩ = some (.slice a O.length cap) ∧ wd.cell? ⟨b, 0, none⟩ = some (.int .i64 me) := by rw [← hwd]; exact ⟨d3, d0⟩
  have hd3 := hd.1
  have hd0 := hd.2
  clear hd HX1 HF1
  refine wp_region_held_drew (S := fun wq => wq.cell? ⟨b, 0, none⟩ = some (.int .i64 me)) (by kernel_rfl) d0 (fun hHeld => ?_)
  rw [hwd] at hHeld ⊢
  clear hwd d0 d1 d2 d3 d4
  refine wpAnyH_take (i := 0) (oi := ?p0x1) (v := ?v0x1) ?o0x1 (by kernel_rfl) (by kernel_rfl) (by kernel_rfl) ?q0x1 ?y0x1 hHeld ?r0x1
  case o0x1 => (simp only [List.getElem?_toArray, List.getElem?_cons_zero]; try rfl)
  case q0x1 => exact fun _ _ _ h => h
  case y0x1 => (refine Or.inl ⟨rfl, ?_⟩; intro wq hq; obtain q0 := hq; go_simp; try with_reducible rfl)
  simp only [Act.put, List.setIfInBounds_toArray, List.set_cons_zero, List.set_cons_succ]
  refine wpAnyH_take (i := 1) (oi := ?p1x2) (v := ?v1x2) ?o1x2 (by kernel_rfl) (by kernel_rfl) (by kernel_rfl) ?q1x2 ?y1x2 hHeld ?r1x2
  case o1x2 => (simp only [List.getElem?_toArray, List.getElem?_cons_succ, List.getElem?_cons_zero]; try rfl)
  case q1x2 => exact fun _ _ _ h => h
  case y1x2 => (refine Or.inl ⟨rfl, ?_⟩; intro wq hq; obtain q0 := hq; go_simp; try with_reducible rfl)
  simp only [Act.put, List.setIfInBounds_toArray, List.set_cons_zero, List.set_cons_succ]
  refine wpAnyH_take (i := 2) (oi := ?p2x3) (v := ?v2x3) ?o2x3 (by kernel_rfl) (by kernel_rfl) (by kernel_rfl) ?q2x3 ?y2x3 hHeld ?r2x3
  case o2x3 => (simp only [List.getElem?_toArray, List.getElem?_cons_succ, List.getElem?_cons_zero]; try rfl)
  case q2x3 => exact fun _ _ _ h => h
  case y2x3 => (refine Or.inl ⟨rfl, ?_⟩; intro wq hq; obtain q0 := hq; go_simp; try with_reducible rfl)
  simp only [Act.put, List.setIfInBounds_toArray, List.set_cons_zero, List.set_cons_succ]
  refine wpAnyH_take (i := 3) (oi := ?p3x4) (v := ?v3x4) ?o3x4 (by kernel_rfl) (by kernel_rfl) (by kernel_rfl) ?q3x4 ?y3x4 hHeld ?r3x4
  case o3x4 => (simp only [List.getElem?_toArray, List.getElem?_cons_succ, List.getElem?_cons_zero]; try rfl)
  case q3x4 => exact fun _ _ _ h => h
  case y3x4 => (refine Or.inl ⟨rfl, ?_⟩; intro wq hq; obtain q0 := hq; go_simp; try with_reducible rfl)
  simp only [Act.put, List.setIfInBounds_toArray, List.set_cons_zero, List.set_cons_succ]
  refine wpAnyH_take (i := 5) (oi := ?p5x5) (v := ?v5x5) ?o5x5 (by kernel_rfl) (by kernel_rfl) (by kernel_rfl) ?q5x5 ?y5x5 hHeld ?r5x5
  case o5x5 => (simp only [List.getElem?_toArray, List.getElem?_cons_succ, List.getElem?_cons_zero]; try rfl)
  case q5x5 => exact fun _ _ _ h => h
  case y5x5 => (refine Or.inl ⟨rfl, ?_⟩; intro wq hq; obtain q0 := hq; go_simp; try with_reducible rfl)
  simp only [Act.put, List.setIfInBounds_toArray, List.set_cons_zero, List.set_cons_succ]
  refine wpAnyH_take (i := 6) (oi := ?p6x6) (v := ?v6x6) ?o6x6 (by kernel_rfl) (by kernel_rfl) (by kernel_rfl) ?q6x6 ?y6x6 hHeld ?r6x6
  case o6x6 => (simp only [List.getElem?_toArray, List.getElem?_cons_succ, List.getElem?_cons_zero]; try rfl)
  case q6x6 => exact fun _ _ _ h => h
  case y6x6 => (refine Or.inl ⟨rfl, ?_⟩; intro wq hq; obtain q0 := hq; go_simp; try with_reducible rfl)
  simp only [Act.put, List.setIfInBounds_toArray, List.set_cons_zero, List.set_cons_succ]
  refine wpAnyH_take (i := 7) (oi := ?p7x7) (v := ?v7x7) ?o7x7 (by kernel_rfl) (by kernel_rfl) (by kernel_rfl) ?q7x7 ?y7x7 hHeld ?r7x7
  case o7x7 => (simp only [List.getElem?_toArray, List.getElem?_cons_succ, List.getElem?_cons_zero]; try rfl)
  case q7x7 => exact fun _ _ _ h => h
  case y7x7 => (refine Or.inl ⟨rfl, ?_⟩; intro wq hq; obtain q0 := hq; go_simp; try with_reducible rfl)
  simp only [Act.put, List.setIfInBounds_toArray, List.set_cons_zero, List.set_cons_succ]
  refine wpAnyH_take (i := 8) (oi := ?p8x8) (v := ?v8x8) ?o8x8 (by kernel_rfl) (by kernel_rfl) (by kernel_rfl) ?q8x8 ?y8x8 hHeld ?r8x8
  case o8x8 => (simp only [List.getElem?_toArray, List.getElem?_cons_succ, List.getElem?_cons_zero]; try rfl)
  case q8x8 => exact fun _ _ _ h => h
  case y8x8 => (refine Or.inl ⟨rfl, ?_⟩; intro wq hq; obtain q0 := hq; go_simp; try with_reducible rfl)
  simp only [Act.put, List.setIfInBounds_toArray, List.set_cons_zero, List.set_cons_succ]
  refine wpAnyH_take (i := 9) (oi := ?p9x9) (v := ?v9x9) ?o9x9 (by kernel_rfl) (by kernel_rfl) (by kernel_rfl) ?q9x9 ?y9x9 hHeld ?r9x9
  case o9x9 => (simp only [List.getElem?_toArray, List.getElem?_cons_succ, List.getElem?_cons_zero]; try rfl)
  case q9x9 => exact fun _ _ _ h => h
  case y9x9 => (refine Or.inl ⟨rfl, ?_⟩; intro wq hq; obtain q0 := hq; go_simp; try with_reducible rfl)
  simp only [Act.put, List.setIfInBounds_toArray, List.set_cons_zero, List.set_cons_succ]
  refine wpAnyH_take (i := 10) (oi := ?p10x10) (v := ?v10x10) ?o10x10 (by kernel_rfl) (by kernel_rfl) (by kernel_rfl) ?q10x10 ?y10x10 hHeld ?r10x10
  case o10x10 => (simp only [List.getElem?_toArray, List.getElem?_cons_succ, List.getElem?_cons_zero]; try rfl)
  case q10x10 => exact fun _ _ _ h => h
  case y10x10 => (refine Or.inl ⟨rfl, ?_⟩; intro wq hq; obtain q0 := hq; go_simp; try with_reducible rfl)
  simp only [Act.put, List.setIfInBounds_toArray, List.set_cons_zero, List.set_cons_succ]
  refine wpAnyH_take (i := 11) (oi := ?p11x11) (v := ?v11x11) ?o11x11 (by kernel_rfl) (by kernel_rfl) (by kernel_rfl) ?q11x11 ?y11x11 hHeld ?r11x11
  case o11x11 => (simp only [List.getElem?_toArray, List.getElem?_cons_succ, List.getElem?_cons_zero]; try rfl)
  case q11x11 => exact fun _ _ _ h => h
  case y11x11 => (refine Or.inl ⟨rfl, ?_⟩; intro wq hq; obtain q0 := hq; go_simp; try with_reducible rfl)
  simp only [Act.put, List.setIfInBounds_toArray, List.set_cons_zero, List.set_cons_succ]
  refine wpAnyH_take (i := 12) (oi := ?p12x12) (v := ?v12x12) ?o12x12 (by kernel_rfl) (by kernel_rfl) (by kernel_rfl) ?q12x12 ?y12x12 hHeld ?r12x12
  case o12x12 => (simp only [List.getElem?_toArray, List.getElem?_cons_succ, List.getElem?_cons_zero]; try rfl)
  case q12x12 => exact fun _ _ _ h => h
  case y12x12 => (refine Or.inl ⟨rfl, ?_⟩; intro wq hq; obtain q0 := hq; go_simp; try with_reducible rfl)
  simp only [Act.put, List.setIfInBounds_toArray, List.set_cons_zero, List.set_cons_succ]
  refine wpAnyH_ready (rs := [4, 13]) (by kernel_rfl) (by simp) ?_
  refine (AllReadyH.cons (o := ?p4x13) ?o4x13 ?s4x13 (AllReadyH.cons (o := ?p13x13) ?o13x13 ?s13x13 AllReadyH.nil))
  case o4x13 => (simp only [List.getElem?_toArray, List.getElem?_cons_succ, List.getElem?_cons_zero]; try rfl)
  case o13x13 => (simp only [List.getElem?_toArray, List.getElem?_cons_succ, List.getElem?_cons_zero]; try rfl)
  case s4x13 =>
    intro Kk hK
    go_simp
    refine hK.out _ _ hd0 (fun hHeld => ?_)
    clear hK Kk
    refine wpAnyH_ready (rs := [13]) (by kernel_rfl) (by simp) ?_
    refine (AllReadyH.cons (o := ?p13x14) ?o13x14 ?s13x14 AllReadyH.nil)
    case o13x14 => (simp only [List.getElem?_toArray, List.getElem?_cons_succ, List.getElem?_cons_zero]; try rfl)
    intro Kk hK
    go_simp
    refine (hcl _).mono ?_
    rintro e w3 ⟨rfl, hb3⟩
    obtain ⟨⟨e0, e3⟩, ⟨g0, g3⟩, a', c', w4, hrun, ⟨k0, k3, kf⟩, W5, hW5, hX5, hF5⟩ := HRUN.out w3 hb3
    have HX5 := Hid_of hX5
    have HF5 := Hid_of hF5
    have HW5 := Hid_of hW5
    have S5 := hX5.cells.1.1
    clear hX5 hF5 hW5 HRUN hb3 bd hcl
    refine hK.out _ _ e0 (fun hHeld => ?_)
    clear hK Kk
    refine wpAnyH_take (i := 14) (oi := ?p14x15) (v := ?v14x15) ?o14x15 (by kernel_rfl) (by kernel_rfl) (by kernel_rfl) ?q14x15 ?y14x15 hHeld ?r14x15
    case o14x15 => (simp only [List.getElem?_toArray, List.getElem?_cons_succ, List.getElem?_cons_zero]; try rfl)
    case q14x15 => exact fun _ _ _ h => h
    case y14x15 => (refine Or.inl ⟨rfl, ?_⟩; intro wq hq; obtain q0 := hq; go_simp; try with_reducible rfl)
    simp only [Act.put, List.setIfInBounds_toArray, List.set_cons_zero, List.set_cons_succ]
    refine wpAnyH_ready (rs := [15]) (by kernel_rfl) (by simp) ?_
    refine (AllReadyH.cons (o := ?p15x16) ?o15x16 ?s15x16 AllReadyH.nil)
    case o15x16 => (simp only [List.getElem?_toArray, List.getElem?_cons_succ, List.getElem?_cons_zero]; try rfl)
    intro Kk hK
    go_simp
    refine hK.out _ _ g0 (fun hHeld => ?_)
    clear hK Kk
    refine wpAnyH_ready (rs := [16]) (by kernel_rfl) (by simp) ?_
    refine (AllReadyH.cons (o := ?p16x17) ?o16x17 ?s16x17 AllReadyH.nil)
    case o16x17 => (simp only [List.getElem?_toArray, List.getElem?_cons_succ, List.getElem?_cons_zero]; try rfl)
    intro Kk hK
    refine step_append_known rfl (.tmp 35) (.tmp 46) 64 rfl _ _ rfl rfl _ _ (hrun _) ?_
    refine hK.out _ _ k0 (fun hHeld => ?_)
    clear hK Kk
    simp only [Act.put, List.setIfInBounds_toArray, List.set_cons_zero, List.set_cons_succ]
    refine wpAnyH_take (i := 17) (oi := ?p17x18) (v := ?v17x18) ?o17x18 (by kernel_rfl) (by kernel_rfl) (by kernel_rfl) ?q17x18 ?y17x18 hHeld ?r17x18
    case o17x18 => (simp only [List.getElem?_toArray, List.getElem?_cons_succ, List.getElem?_cons_zero]; try rfl)
    case q17x18 => exact fun _ _ _ h => h
    case y17x18 => (refine Or.inl ⟨rfl, ?_⟩; intro wq hq; obtain q0 := hq; go_simp; try with_reducible rfl)
    simp only [Act.put, List.setIfInBounds_toArray, List.set_cons_zero, List.set_cons_succ]
    refine wpAnyH_take (i := 18) (oi := ?p18x19) (v := ?v18x19) ?o18x19 (by kernel_rfl) (by kernel_rfl) (by kernel_rfl) ?q18x19 ?y18x19 hHeld ?r18x19
    case o18x19 => (simp only [List.getElem?_toArray, List.getElem?_cons_succ, List.getElem?_cons_zero]; try rfl)
    case q18x19 => exact fun _ _ _ h => h
    case y18x19 => (refine Or.inl ⟨rfl, ?_⟩; intro wq hq; obtain q0 := hq; go_simp; try with_reducible rfl)
    simp only [Act.put, List.setIfInBounds_toArray, List.set_cons_zero, List.set_cons_succ]
    refine wpAnyH_ready (rs := [19]) (by kernel_rfl) (by simp) ?_
    refine (AllReadyH.cons (o := ?p19x20) ?o19x20 ?s19x20 AllReadyH.nil)
    case o19x20 => (simp only [List.getElem?_toArray, List.getElem?_cons_succ, List.getElem?_cons_zero]; try rfl)
    intro Kk hK
    go_simp
    refine hK.out _ _ (by rw [HW5.out]; exact S5) (fun hHeld => ?_)
    clear hK Kk
    refine wpAnyH_done (by kernel_rfl) ?_ _
    rw [HW5.out]
    have hst := set_any base bt vt P next now W5 (by have := HF5.out.size; omega) HX5.out.tm
    obtain ⟨⟨y0, y1, y2, y3, y4⟩, _⟩ := HX5.out.cells
    clear hrun e0 e3 g0 g3 k0 k3 kf hd3 hd0 S5
    go_wp2_with fail
    refine hst.mono ?_
    rintro e w6 ⟨vt6, rfl, hx6, hc6⟩
    obtain ⟨hX6, hF6⟩ := HX5.out.timed hx6 hc6
    have HQ : Hid (COut w0 base b bt m vt (.slice a O.length cap) n me (next + 1) (O ++ [⟨me, x, next, 0, s⟩]) (M.setL P next now) f (.tuple #[.int .i64 next, .int .i64 0]) (.returned (.tuple #[.int .i64 next, .int .i64 0])) w6) := ⟨_, _, rfl, hX6, HF5.out.trans hF6⟩
    clear hX6 hF6 hx6 hc6 hst y0 y1 y2 y3 y4 HX5 HF5
    go_wp2
    go_ret2
    exact HQ.out
  case s13x13 =>
    intro Kk hK
    go_simp
    refine (hcl _).mono ?_
    rintro e w3 ⟨rfl, hb3⟩
    obtain ⟨⟨e0, e3⟩, ⟨g0, g3⟩, a', c', w4, hrun, ⟨k0, k3, kf⟩, W5, hW5, hX5, hF5⟩ := HRUN.out w3 hb3
    have HX5 := Hid_of hX5
    have HF5 := Hid_of hF5
    have HW5 := Hid_of hW5
    have S5 := hX5.cells.1.1
    clear hX5 hF5 hW5 HRUN hb3 bd hcl
    refine hK.out _ _ e0 (fun hHeld => ?_)
    clear hK Kk
    refine wpAnyH_take (i := 14) (oi := ?p14x21) (v := ?v14x21) ?o14x21 (by kernel_rfl) (by kernel_rfl) (by kernel_rfl) ?q14x21 ?y14x21 hHeld ?r14x21
    case o14x21 => (simp only [List.getElem?_toArray, List.getElem?_cons_succ, List.getElem?_cons_zero]; try rfl)
    case q14x21 => exact fun _ _ _ h => h
    case y14x21 => (refine Or.inl ⟨rfl, ?_⟩; intro wq hq; obtain q0 := hq; go_simp; try with_reducible rfl)
    simp only [Act.put, List.setIfInBounds_toArray, List.set_cons_zero, List.set_cons_succ]
    refine wpAnyH_ready (rs := [4, 15]) (by kernel_rfl) (by simp) ?_
    refine (AllReadyH.cons (o := ?p4x22) ?o4x22 ?s4x22 (AllReadyH.cons (o := ?p15x22) ?o15x22 ?s15x22 AllReadyH.nil))
    case o4x22 => (simp only [List.getElem?_toArray, List.getElem?_cons_succ, List.getElem?_cons_zero]; try rfl)
    case o15x22 => (simp only [List.getElem?_toArray, List.getElem?_cons_succ, List.getElem?_cons_zero]; try rfl)
    case s4x22 =>
      intro Kk hK
      go_simp
      refine hK.out _ _ e0 (fun hHeld => ?_)
      clear hK Kk
      refine wpAnyH_ready (rs := [15]) (by kernel_rfl) (by simp) ?_
      refine (AllReadyH.cons (o := ?p15x23) ?o15x23 ?s15x23 AllReadyH.nil)
      case o15x23 => (simp only [List.getElem?_toArray, List.getElem?_cons_succ, List.getElem?_cons_zero]; try rfl)
      intro Kk hK
      go_simp
      refine hK.out _ _ g0 (fun hHeld => ?_)
      clear hK Kk
      refine wpAnyH_ready (rs := [16]) (by kernel_rfl) (by simp) ?_
      refine (AllReadyH.cons (o := ?p16x24) ?o16x24 ?s16x24 AllReadyH.nil)
      case o16x24 => (simp only [List.getElem?_toArray, List.getElem?_cons_succ, List.getElem?_cons_zero]; try rfl)
      intro Kk hK
      refine step_append_known rfl (.tmp 35) (.tmp 46) 64 rfl _ _ rfl rfl _ _ (hrun _) ?_
      refine hK.out _ _ k0 (fun hHeld => ?_)
      clear hK Kk
      simp only [Act.put, List.setIfInBounds_toArray, List.set_cons_zero, List.set_cons_succ]
      refine wpAnyH_take (i := 17) (oi := ?p17x25) (v := ?v17x25) ?o17x25 (by kernel_rfl) (by kernel_rfl) (by kernel_rfl) ?q17x25 ?y17x25 hHeld ?r17x25
      case o17x25 => (simp only [List.getElem?_toArray, List.getElem?_cons_succ, List.getElem?_cons_zero]; try rfl)
      case q17x25 => exact fun _ _ _ h => h
      case y17x25 => (refine Or.inl ⟨rfl, ?_⟩; intro wq hq; obtain q0 := hq; go_simp; try with_reducible rfl)
      simp only [Act.put, List.setIfInBounds_toArray, List.set_cons_zero, List.set_cons_succ]
      refine wpAnyH_take (i := 18) (oi := ?p18x26) (v := ?v18x26) ?o18x26 (by kernel_rfl) (by kernel_rfl) (by kernel_rfl) ?q18x26 ?y18x26 hHeld ?r18x26
      case o18x26 => (simp only [List.getElem?_toArray, List.getElem?_cons_succ, List.getElem?_cons_zero]; try rfl)
      case q18x26 => exact fun _ _ _ h => h
      case y18x26 => (refine Or.inl ⟨rfl, ?_⟩; intro wq hq; obtain q0 := hq; go_simp; try with_reducible rfl)
      simp only [Act.put, List.setIfInBounds_toArray, List.set_cons_zero, List.set_cons_succ]
      refine wpAnyH_ready (rs := [19]) (by kernel_rfl) (by simp) ?_
      refine (AllReadyH.cons (o := ?p19x27) ?o19x27 ?s19x27 AllReadyH.nil)
      case o19x27 => (simp only [List.getElem?_toArray, List.getElem?_cons_succ, List.getElem?_cons_zero]; try rfl)
      intro Kk hK
      go_simp
      refine hK.out _ _ (by rw [HW5.out]; exact S5) (fun hHeld => ?_)
      clear hK Kk
      refine wpAnyH_done (by kernel_rfl) ?_ _
      rw [HW5.out]
      have hst := set_any base bt vt P next now W5 (by have := HF5.out.size; omega) HX5.out.tm
      obtain ⟨⟨y0, y1, y2, y3, y4⟩, _⟩ := HX5.out.cells
      clear hrun e0 e3 g0 g3 k0 k3 kf hd3 hd0 S5
      go_wp2_with fail
      refine hst.mono ?_
      rintro e w6 ⟨vt6, rfl, hx6, hc6⟩
      obtain ⟨hX6, hF6⟩ := HX5.out.timed hx6 hc6
      have HQ : Hid (COut w0 base b bt m vt (.slice a O.length cap) n me (next + 1) (O ++ [⟨me, x, next, 0, s⟩]) (M.setL P next now) f (.tuple #[.int .i64 next, .int .i64 0]) (.returned (.tuple #[.int .i64 next, .int .i64 0])) w6) := ⟨_, _, rfl, hX6, HF5.out.trans hF6⟩
      clear hX6 hF6 hx6 hc6 hst y0 y1 y2 y3 y4 HX5 HF5
      go_wp2
      go_ret2
      exact HQ.out
    case s15x22 =>
      intro Kk hK
      go_simp
      refine hK.out _ _ g0 (fun hHeld => ?_)
      clear hK Kk
      refine wpAnyH_ready (rs := [4]) (by kernel_rfl) (by simp) ?_
      refine (AllReadyH.cons (o := ?p4x28) ?o4x28 ?s4x28 AllReadyH.nil)
      case o4x28 => (simp only [List.getElem?_toArray, List.getElem?_cons_succ, List.getElem?_cons_zero]; try rfl)
      intro Kk hK
      go_simp
      refine hK.out _ _ g0 (fun hHeld => ?_)
      clear hK Kk
      refine wpAnyH_ready (rs := [16]) (by kernel_rfl) (by simp) ?_
      refine (AllReadyH.cons (o := ?p16x29) ?o16x29 ?s16x29 AllReadyH.nil)
      case o16x29 => (simp only [List.getElem?_toArray, List.getElem?_cons_succ, List.getElem?_cons_zero]; try rfl)
      intro Kk hK
      refine step_append_known rfl (.tmp 35) (.tmp 46) 64 rfl _ _ rfl rfl _ _ (hrun _) ?_
      refine hK.out _ _ k0 (fun hHeld => ?_)
      clear hK Kk
      simp only [Act.put, List.setIfInBounds_toArray, List.set_cons_zero, List.set_cons_succ]
      refine wpAnyH_take (i := 17) (oi := ?p17x30) (v := ?v17x30) ?o17x30 (by kernel_rfl) (by kernel_rfl) (by kernel_rfl) ?q17x30 ?y17x30 hHeld ?r17x30
      case o17x30 => (simp only [List.getElem?_toArray, List.getElem?_cons_succ, List.getElem?_cons_zero]; try rfl)
      case q17x30 => exact fun _ _ _ h => h
      case y17x30 => (refine Or.inl ⟨rfl, ?_⟩; intro wq hq; obtain q0 := hq; go_simp; try with_reducible rfl)
      simp only [Act.put, List.setIfInBounds_toArray, List.set_cons_zero, List.set_cons_succ]
      refine wpAnyH_take (i := 18) (oi := ?p18x31) (v := ?v18x31) ?o18x31 (by kernel_rfl) (by kernel_rfl) (by kernel_rfl) ?q18x31 ?y18x31 hHeld ?r18x31
      case o18x31 => (simp only [List.getElem?_toArray, List.getElem?_cons_succ, List.getElem?_cons_zero]; try rfl)
      case q18x31 => exact fun _ _ _ h => h
      case y18x31 => (refine Or.inl ⟨rfl, ?_⟩; intro wq hq; obtain q0 := hq; go_simp; try with_reducible rfl)
      simp only [Act.put, List.setIfInBounds_toArray, List.set_cons_zero, List.set_cons_succ]
      refine wpAnyH_ready (rs := [19]) (by kernel_rfl) (by simp) ?_
      refine (AllReadyH.cons (o := ?p19x32) ?o19x32 ?s19x32 AllReadyH.nil)
      case o19x32 => (simp only [List.getElem?_toArray, List.getElem?_cons_succ, List.getElem?_cons_zero]; try rfl)
      intro Kk hK
      go_simp
      refine hK.out _ _ (by rw [HW5.out]; exact S5) (fun hHeld => ?_)
      clear hK Kk
      refine wpAnyH_done (by kernel_rfl) ?_ _
      rw [HW5.out]
      have hst := set_any base bt vt P next now W5 (by have := HF5.out.size; omega) HX5.out.tm
      obtain ⟨⟨y0, y1, y2, y3, y4⟩, _⟩ := HX5.out.cells
      clear hrun e0 e3 g0 g3 k0 k3 kf hd3 hd0 S5
      go_wp2_with fail
      refine hst.mono ?_
      rintro e w6 ⟨vt6, rfl, hx6, hc6⟩
      obtain ⟨hX6, hF6⟩ := HX5.out.timed hx6 hc6
      have HQ : Hid (COut w0 base b bt m vt (.slice a O.length cap) n me (next + 1) (O ++ [⟨me, x, next, 0, s⟩]) (M.setL P next now) f (.tuple #[.int .i64 next, .int .i64 0]) (.returned (.tuple #[.int .i64 next, .int .i64 0])) w6) := ⟨_, _, rfl, hX6, HF5.out.trans hF6⟩
      clear hX6 hF6 hx6 hc6 hst y0 y1 y2 y3 y4 HX5 HF5
      go_wp2
      go_ret2
      exact HQ.out
end Go.Proofs.Ytbgbdiiinggjnaa
