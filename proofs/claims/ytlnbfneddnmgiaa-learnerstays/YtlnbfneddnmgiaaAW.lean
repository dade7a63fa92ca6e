/-
  The chapter's example.
-/
import Derived.Test.YtlnbfneddnmgiaaLK
namespace Go.Proofs.Ytlnbfneddnmgiaa
open Go.RowKit Go.Maps
set_option linter.unusedVariables false
open M (E V W fup)

namespace M
def exV : V := ⟨0, ⟨1, 0⟩, ⟨#[120]⟩⟩
def a0 : S := s0 3
def a1 : S := hs a0 0 exV
def a2 : S := hs a1 0 exV
def a3 : S := hs a2 2 exV
def a4 : S := ts a3 1 ⟨#[121]⟩
def a5 : S := ts a4 1 ⟨#[122]⟩
def a6 : S := tr a5 9
theorem ex1 : hb a0 0 exV = false := by kernel_rfl
theorem ex2 : hb a1 0 exV = false := by kernel_rfl
theorem ex3 : hb a2 2 exV = true := by kernel_rfl
theorem ex4 : a3.td 0 = some ⟨#[120]⟩ := by kernel_rfl
theorem ex5 : may a3 1 ⟨#[121]⟩ = true := by kernel_rfl
theorem ex6 : may a4 1 ⟨#[122]⟩ = false := by kernel_rfl
theorem ex7 : lgs a5 0 = [⟨#[120]⟩, ⟨#[121]⟩] := by kernel_rfl
theorem ex8 : tb a5 9 - a5.base = 2 := by kernel_rfl
theorem ex9 : a6.base = 2 := by kernel_rfl
theorem ex10 : nx a6 = 2 := by kernel_rfl
theorem ex11 : nde 3 = true ∧ nde 8 = false := ⟨by kernel_rfl, by kernel_rfl⟩
theorem ex12 : a0.c ≤ 900000 ∧ a1.c ≤ 900000 ∧ a2.c ≤ 900000 ∧ a3.c ≤ 900000 ∧ a4.c ≤ 900000 := ⟨Nat.le_of_ble_eq_true (by kernel_rfl), Nat.le_of_ble_eq_true (by kernel_rfl), Nat.le_of_ble_eq_true (by kernel_rfl), Nat.le_of_ble_eq_true (by kernel_rfl), Nat.le_of_ble_eq_true (by kernel_rfl)⟩
end M
set_option maxRecDepth 100000 in
set_option maxHeartbeats 1000000 in
theorem awake_any (w : World) : Calls Try.prog 8 #[] w fun e w' => e = .returned (.bool true) ∧ Below w.heap.size w w' := by
  have cn := newS_any w w (Below.refl _ _) 3
  go_enter Try.func8, Try.ntmps8
  go_wp2_with fail
  refine cn.mono ?_
  rintro e w1 (⟨h0, _, _⟩ | ⟨h0, b, F, rfl, hL, hB, hFn⟩)
  · rw [M.ex11.1] at h0
    cases h0
  clear cn h0
  have cn : Calls Try.prog 9 #[.int .i64 8] w1 fun e w' => e = .returned (.pointer none) ∧ w' = w1 := (newS_any w w1 hL.bel 8).mono fun e w' h => by
    rcases h with ⟨_, h1, h2⟩ | ⟨h0, _⟩
    · exact ⟨h1, h2⟩
    · rw [M.ex11.2] at h0
      cases h0
  go_wp2_with fail
  refine cn.mono ?_
  rintro e w2 ⟨rfl, rfl⟩
  clear cn
  obtain ⟨W1, HW1⟩ : ∃ W1, Hid (w2.alloc (.cells #[.int .i64 0, .int .i64 1, .int .i64 0, .string ⟨#[120]⟩] 36) = W1) := ⟨_, Hid_of rfl⟩
  have hb1 : Below w2.heap.size w2 W1 := by rw [← HW1.out]; exact bel1 w2 _
  have hr1 : W1.heap[w2.heap.size]? = some (.cells #[.int .i64 0, .int .i64 1, .int .i64 0, .string ⟨#[120]⟩] 36 (0, 0)) := by rw [← HW1.out]; exact heap_alloc_last w2 _
  have hm := hL.mine
  have HX0 : Hid (BX W1 F w2.heap.size (.cells #[.int .i64 0, .int .i64 1, .int .i64 0, .string ⟨#[120]⟩] 36 (0, 0))) := Hid_of ⟨hr1, fun e => by have := (hm _ e).2; omega⟩
  have HL0 : Hid (LS w W1 F b M.a0) := Hid_of (hL.keep hb1)
  clear hL hB hFn hb1 hr1 hm
  go_upto_region 5 with fail
  rw [HW1.out]
  obtain ⟨gv, HGV⟩ : ∃ gv, Hid (w2.heap.size = gv) := ⟨_, Hid_of rfl⟩
  rw [HGV.out] at HX0 ⊢
  clear HW1 HGV
  have HI : Hid ((fun wq : World => wq.heap[gv]? = some (.cells #[.int .i64 0, .int .i64 1, .int .i64 0, .string ⟨#[120]⟩] 36 (0, 0))) W1.drew) := Hid_of HX0.out.row
  have HS : Hid (∀ wq, (fun wq : World => wq.heap[gv]? = some (.cells #[.int .i64 0, .int .i64 1, .int .i64 0, .string ⟨#[120]⟩] 36 (0, 0))) wq → wq.cell? ⟨gv, 0, none⟩ = some (.int .i64 0) ∧ wq.cell? ⟨gv, 1, none⟩ = some (.int .i64 1) ∧ wq.cell? ⟨gv, 2, none⟩ = some (.int .i64 0) ∧ wq.cell? ⟨gv, 3, none⟩ = some (.string ⟨#[120]⟩)) := Hid_of (fun wq hq => (row4 hq).1)
  refine wp_region_held_drew (S := fun wq : World => wq.heap[gv]? = some (.cells #[.int .i64 0, .int .i64 1, .int .i64 0, .string ⟨#[120]⟩] 36 (0, 0))) (by kernel_rfl) HI.out (fun hHeld => ?_)
  obtain ⟨wda, hwda⟩ : ∃ wd, W1.drew = wd := ⟨_, rfl⟩
  have hBwd : Below W1.heap.size W1 wda := by rw [← hwda]; exact Below.drew (Below.refl _ _)
  rw [hwda] at hHeld ⊢
  clear hwda
  have HL0 := Hid_of (HL0.out.keep hBwd)
  have HX0 := Hid_of (HX0.out.up hBwd)
  refine Tm 0 ?p0a ?v0a hHeld ?r0a
  refine Tk 1 ?p1a ?v1a ?y1a hHeld ?r1a
  case y1a => intro wq hq; obtain ⟨q0, q1, q2, q3⟩ := HS.out wq hq; go_simp; try with_reducible rfl
  refine Tm 3 ?p3a ?v3a hHeld ?r3a
  refine Tk 4 ?p4a ?v4a ?y4a hHeld ?r4a
  case y4a => intro wq hq; obtain ⟨q0, q1, q2, q3⟩ := HS.out wq hq; go_simp; try with_reducible rfl
  refine Tm 6 ?p6a ?v6a hHeld ?r6a
  refine Tk 7 ?p7a ?v7a ?y7a hHeld ?r7a
  case y7a => intro wq hq; obtain ⟨q0, q1, q2, q3⟩ := HS.out wq hq; go_simp; try with_reducible rfl
  simp only [Act.put, Pa, Pb, Pc]
  refine Rd 2 ?p2a ?s2a
  intro K hK
  go_simp
  have ch := HL0.out.hear 0 M.exV (by decide) M.ex12.1
  rw [M.ex1] at ch
  refine ch.mono ?_
  rintro e v1 ⟨G1, rfl, hL1, hF1⟩
  have HL1 : Hid (LS w v1 G1 b M.a1) := Hid_of hL1
  have HX1 := Hid_of (HX0.out.step hF1)
  clear ch hL1 hF1
  refine hK.out _ _ HX1.out.row (fun hHeld => ?_)
  clear hK K
  refine Rd 5 ?p5a_2 ?s5a_2
  intro K hK
  go_simp
  have ch := HL1.out.hear 0 M.exV (by decide) M.ex12.2.1
  rw [M.ex2] at ch
  refine ch.mono ?_
  rintro e v2 ⟨G2, rfl, hL2, hF2⟩
  have HL2 : Hid (LS w v2 G2 b M.a2) := Hid_of hL2
  have HX2 := Hid_of (HX1.out.step hF2)
  clear ch hL2 hF2
  refine hK.out _ _ HX2.out.row (fun hHeld => ?_)
  clear hK K
  refine Rd 8 ?p8a_2_5 ?s8a_2_5
  intro K hK
  go_simp
  have ch := HL2.out.hear 2 M.exV (by decide) M.ex12.2.2.1
  rw [M.ex3] at ch
  refine ch.mono ?_
  rintro e v3 ⟨G3, rfl, hL3, hF3⟩
  have HL3 : Hid (LS w v3 G3 b M.a3) := Hid_of hL3
  have HX3 := Hid_of (HX2.out.step hF3)
  clear ch hL3 hF3
  refine hK.out _ _ HX3.out.row (fun hHeld => ?_)
  clear hK K
  refine Tm 9 ?p9a_2_5_8 ?v9a_2_5_8 hHeld ?r9a_2_5_8
  refine Tm 10 ?p10a_2_5_8 ?v10a_2_5_8 hHeld ?r10a_2_5_8
  refine Tm 11 ?p11a_2_5_8 ?v11a_2_5_8 hHeld ?r11a_2_5_8
  simp only [Act.put, Pa, Pb, Pc]
  refine wpAnyH_done (by kernel_rfl) ?_ _
  clear HS HI HX0 HX1 HX2 HX3 HL0 HL1 HL2 hBwd hHeld
  have c6 := HL3.out.told 0 (by decide)
  rw [M.ex4] at c6
  go_wp2_with fail
  refine c6.mono ?_
  rintro e v4 ⟨rfl, hb4⟩
  have HL4 := Hid_of (HL3.out.keep hb4)
  clear c6 hb4 HL3
  have c7 := HL4.out.tell 1 ⟨#[121]⟩ (by decide) M.ex12.2.2.2.1
  rw [M.ex5] at c7
  go_wp2_with fail
  refine c7.mono ?_
  rintro e v5 ⟨G5, rfl, hL5, -⟩
  have HL5 : Hid (LS w v5 G5 b M.a4) := Hid_of hL5
  clear c7 hL5 HL4
  have c8 := HL5.out.tell 1 ⟨#[122]⟩ (by decide) M.ex12.2.2.2.2
  rw [M.ex6] at c8
  go_wp2_with fail
  refine c8.mono ?_
  rintro e v6 ⟨G6, rfl, hL6, -⟩
  have HL6 : Hid (LS w v6 G6 b M.a5) := Hid_of hL6
  clear c8 hL6 HL5
  have c9 := HL6.out.log 0
  rw [M.ex7] at c9
  go_wp2_with fail
  refine c9.mono ?_
  rintro e v7 ⟨ad, c, rfl, hx7, hbk7, hb7⟩
  have HL7 := Hid_of (HL6.out.keep hb7)
  have hsz6 := HL6.out.mine
  have HAP : Hid (∀ k, blk ad k → ¬ G6 k) := Hid_of (fun k hk hg => by have := (hbk7 k hk).1; have := (hsz6 k hg).2; omega)
  have HXA := Hid_of hx7
  have HLT : Hid (∀ k, blk ad k → k < v7.heap.size) := Hid_of (fun k hk => (hbk7 k hk).2)
  clear c9 hx7 hbk7 hb7 hsz6 HL6
  have c10 := HL7.out.trim 9
  rw [M.ex8] at c10
  go_wp2_with fail
  refine c10.mono ?_
  rintro e v8 ⟨G8, rfl, hL8, hF8⟩
  have HL8 : Hid (LS w v8 G8 b M.a6) := Hid_of hL8
  have HXB := Hid_of (HXA.out.keepBut (w' := v8) fun k hk hb => hF8.block k hk (HAP.out k hb))
  clear c10 hL8 hF8 HXA HLT HAP HL7
  obtain ⟨W9, HW9⟩ : ∃ W9, Hid (v8.alloc (.cells #[.string ⟨#[120]⟩, .string ⟨#[121]⟩] 9) = W9) := ⟨_, Hid_of rfl⟩
  have hb9 : Below v8.heap.size v8 W9 := by rw [← HW9.out]; exact bel1 v8 _
  have hr9 : W9.heap[v8.heap.size]? = some (.cells (tl.cells [⟨#[120]⟩, ⟨#[121]⟩]).toArray 9 (0, 0)) := by rw [← HW9.out]; exact heap_alloc_last v8 _
  have ct := texts_any ad c (some ⟨v8.heap.size, 0, none⟩) 2 [⟨#[120]⟩, ⟨#[121]⟩] W9 (by simp) (HXB.out.keep hb9).at' (by
    intro j hj
    refine ⟨v8.heap.size, 0, rfl, fun q hq => ?_⟩
    rw [cell_of_row W9 _ _ _ _ _ hr9, List.getElem?_toArray, Nat.zero_add]
    exact tl.get _ j hj q hq)
  have HL9 := Hid_of (HL8.out.keep hb9)
  clear hb9 hr9 HXB HL8
  simp only [List.length_cons, List.length_nil, Nat.zero_add, Nat.reduceAdd] at ct
  go_wp2_with fail
  rw [HW9.out]
  refine ct.mono ?_
  rintro e v9 ⟨rfl, hb10⟩
  have HL10 := Hid_of (HL9.out.keep hb10)
  have cb := HL10.out.base
  rw [M.ex9] at cb
  clear ct HL9 hb10 HW9
  go_wp2_with fail
  refine cb.mono ?_
  rintro e v10 ⟨rfl, rfl⟩
  have cx := HL10.out.next
  rw [M.ex10] at cx
  clear cb
  go_wp2_with fail
  refine cx.mono ?_
  rintro e v11 ⟨rfl, rfl⟩
  have HB := Hid_of HL10.out.bel
  clear cx HL10
  go_wp2
  go_ret
  exact ⟨rfl, HB.out⟩

end Go.Proofs.Ytlnbfneddnmgiaa
