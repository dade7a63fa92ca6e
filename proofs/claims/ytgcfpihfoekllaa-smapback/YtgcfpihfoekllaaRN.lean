/- A map of none; a stripe begun. -/
import Derived.Test.YtgcfpihfoekllaaRJ

namespace Go.Proofs.Ytgcfpihfoekllaa

open Go.RowKit

set_option linter.unusedVariables false

open Sm (S)

section
variable {w w' : World} {base b : Nat} {v : Value} {es : List E} {n : Int} {F : Nat → Prop} {m : List S}
/-- A map of none, made since a world. -/
theorem MI.none {W : World} (h : W.heap[b]? = some (mrow (.slice none 0 0) 0)) (hb : base ≤ b) : MI W base b (.slice none 0 0) [] 0 := ⟨h, OwnL.nil _ _ _, fun e he => by simp at he, by simp [as'], by simp [Value.ownBlock], fun e he => by simp at he, hb, fun j hj => by simp at hj⟩
/-- What makes a map leaves: its block, all that it owns is new. -/
def NewOut (w : World) (m : List S) (b : Nat) (w' : World) : Prop := Below w.heap.size w w' ∧ ∃ F, MM w' w.heap.size b F m
theorem new_any (w : World) : Calls Try.prog 10 #[] w fun e w' => e = .returned (.pointer (some ⟨w.heap.size, 0, none⟩)) ∧ Below w.heap.size w w' ∧ MI w' w.heap.size w.heap.size (.slice none 0 0) [] 0 := by
  have HN : Hid (Below w.heap.size w (w.alloc (mrow (.slice none 0 0) 0)) ∧ MI (w.alloc (mrow (.slice none 0 0) 0)) w.heap.size w.heap.size (.slice none 0 0) [] 0) := Hid_of ⟨bel1 _ _, MI.none (heap_alloc_last w _) (Nat.le_refl _)⟩
  go_enter Try.func10, Try.ntmps10
  go_wp2
  go_ret
  exact ⟨rfl, HN.out⟩
theorem MM.none {W : World} (h : MI W base b (.slice none 0 0) [] 0) : MM W base b (fpm b (.slice none 0 0) []) [] := ⟨_, [], rfl, h, rfl, Sm.G.nil⟩
theorem okB_may {s : S} (h : s.st = 1) : Sm.okB s = Sm.mayB s := by
  unfold Sm.okB
  rw [decide_eq_true (show 1 ≤ s.st ∧ s.st ≤ 3 by omega), Bool.true_and]
theorem fpm_fr {w1 : World} {F' : Nat → Prop} (h : MM w base b F m) (hf : Below w.heap.size w w1) : Fr w F w1 F := Fr.ofBelow hf
set_option maxRecDepth 100000 in
set_option maxHeartbeats 2000000 in
theorem begin_any (h : MM w base b F m) (hbs : base ≤ w.heap.size) (ow ep ln : Int) (a : Option Addr) (c : Nat) (l : List Int) (hep : ep ≤ 9223372036854775807) (hl : l.length ≤ 1000000) (ha : AtL il w a l) : Calls Try.prog 26 #[.pointer (some ⟨b, 0, none⟩), .int .i64 ow, .int .i64 ep, .int .i64 ln, .slice a l.length c] w (DdOut w base b F (.tuple #[.int .i64 (Sm.bv m ⟨1, ow, ep, ln, l⟩), .int .i64 (Sm.bc m ⟨1, ow, ep, ln, l⟩)]) (Sm.bm m ⟨1, ow, ep, ln, l⟩)) := by
  have hb1 := bel1 w (eO ⟨0, ⟨1, ow, ep, ln, l⟩, a, c⟩)
  have hmb := mayBe_any ⟨0, ⟨1, ow, ep, ln, l⟩, a, c⟩ (w.alloc (eO ⟨0, ⟨1, ow, ep, ln, l⟩, a, c⟩)) hep hl (ha.keep hb1)
  have HK := Hid_of (row_cells (heap_alloc_last w (eO ⟨0, ⟨1, ow, ep, ln, l⟩, a, c⟩)))
  have HX := Hid_of (heap_alloc_last w (eO ⟨0, ⟨1, ow, ep, ln, l⟩, a, c⟩))
  obtain ⟨W1, HW1⟩ : ∃ W1, Hid (w.alloc (eO ⟨0, ⟨1, ow, ep, ln, l⟩, a, c⟩) = W1) := ⟨_, rfl⟩
  rw [HW1.out] at HK HX hmb hb1
  have HB1 := Hid_of hb1
  obtain ⟨B, HBB⟩ : ∃ B, Hid (w.heap.size = B) := ⟨_, rfl⟩
  rw [HBB.out] at HX
  rw [okB_may (s := ⟨1, ow, ep, ln, l⟩) rfl] at hmb
  have HA := Hid_of ha
  have HM := Hid_of h
  obtain ⟨v, es, rfl, hMI, rfl, hG⟩ := h
  obtain ⟨s, hs⟩ : ∃ s : S, s = ⟨1, ow, ep, ln, l⟩ := ⟨_, rfl⟩
  have HG := Hid_of hG
  have HI := Hid_of hMI
  have HNO : Hid (¬ Sm.bc (es.map (·.s)) s = 0 → ∀ w1, Below w.heap.size w w1 → DdOut w base b (fpm b v es) (.tuple #[.int .i64 0, .int .i64 (Sm.bc (es.map (·.s)) s)]) (Sm.bm (es.map (·.s)) s) (.returned (.tuple #[.int .i64 0, .int .i64 (Sm.bc (es.map (·.s)) s)])) w1) := Hid_of fun e w1 hb => by rw [show Sm.bm (es.map (·.s)) s = es.map (·.s) by unfold Sm.bm; rw [if_neg e]]; exact DdOut.later HM.out _ hb
  rw [← hs]
  clear ha hMI hG hb1 HM
  obtain ⟨k0, k1, k2, k3, k4, k5⟩ := HK.out.1
  rcases Sm.bc_cases (es.map (·.s)) s with ⟨q1, q2⟩ | ⟨q0, q1, q2⟩ | ⟨q0, q1, q2, q3⟩
  · rw [show Sm.mayB ⟨1, ow, ep, ln, l⟩ = false by rw [← hs]; exact Sm.mayB_no.2 q1] at hmb
    have HQ := HNO.out (by rw [q2]; decide)
    rw [show Sm.bv (es.map (·.s)) s = 0 by unfold Sm.bv; rw [q2, if_neg (by decide)], q2]
    rw [q2] at HQ
    have HQ := Hid_of HQ
    clear q1 q2 hs HNO k0 k1 k2 k3 k4 k5 HK
    go_enter Try.func26, Try.ntmps26
    go_wp2_with fail
    rw [HW1.out]
    refine hmb.mono ?_
    rintro e w1 ⟨rfl, hb⟩
    have HQ2 := Hid_of (HQ.out w1 (bel_up HB1.out hb (Nat.le_refl _)))
    clear HW1 hmb hb HQ
    go_wp2
    go_ret2
    exact HQ2.out
  · rw [show Sm.mayB ⟨1, ow, ep, ln, l⟩ = true by rw [← hs]; exact Sm.mayB_eq.2 q0] at hmb
    have HQ := HNO.out (by rw [q2]; decide)
    rw [show Sm.bv (es.map (·.s)) s = 0 by unfold Sm.bv; rw [q2, if_neg (by decide)], q2]
    rw [q2] at HQ
    have HQ := Hid_of HQ
    have HR : Hid (∀ w1, Below w.heap.size w w1 → Calls Try.prog 62 #[.pointer (some ⟨b, 0, none⟩), .int .i64 1] w1 fun e w' => e = .returned (.bool false) ∧ w' = w1) := Hid_of fun w1 hb => by
      have := hasRoom_any (HI.out.keep hb) 1
      rw [decide_eq_false (by rw [List.length_map] at q1; omega)] at this
      exact this
    clear q0 q1 q2 hs HNO k0 k1 k2 k3 k4 k5 HK
    go_enter Try.func26, Try.ntmps26
    go_wp2_with fail
    rw [HW1.out]
    refine hmb.mono ?_
    rintro e w1 ⟨rfl, hb⟩
    have HQ2 := Hid_of (HQ.out w1 (bel_up HB1.out hb (Nat.le_refl _)))
    have hrm := HR.out w1 (bel_up HB1.out hb (Nat.le_refl _))
    rw [HBB.out]
    obtain ⟨⟨k0, k1, k2, k3, k4, k5⟩, _⟩ := row_cells (bel_row HX.out hb)
    clear HW1 hmb hb HQ HR
    go_wp2_with fail
    refine hrm.mono ?_
    rintro e w1 ⟨rfl, hw1⟩
    subst w1
    clear hrm
    go_wp2
    go_ret2
    exact HQ2.out
  · rw [show Sm.mayB ⟨1, ow, ep, ln, l⟩ = true by rw [← hs]; exact Sm.mayB_eq.2 q0] at hmb
    have hlm : l.length = s.l.length := by rw [hs]
    have hgp := q0.2.2.2
    have hl4 : es.length < 4096 := by simpa using q2
    have HR : Hid (∀ w1, Below w.heap.size w w1 → Calls Try.prog 62 #[.pointer (some ⟨b, 0, none⟩), .int .i64 1] w1 fun e w' => e = .returned (.bool true) ∧ w' = w1) := Hid_of fun w1 hb => by
      have := hasRoom_any (HI.out.keep hb) 1
      rw [decide_eq_true (by omega)] at this
      exact this
    have HAD : Hid (∀ w1, Below w.heap.size w w1 → Calls Try.prog 63 #[.pointer (some ⟨b, 0, none⟩), eV ⟨0, ⟨1, ow, ep, ln, l⟩, a, c⟩] w1 fun e w' => e = .returned (.int .i64 es.length) ∧ DdOut w base b (fpm b v es) (.tuple #[.int .i64 es.length, .int .i64 0]) (Sm.bm (es.map (·.s)) s) (.returned (.tuple #[.int .i64 es.length, .int .i64 0])) w') := Hid_of fun w1 hb => by
      have := add_any (HI.out.keep hb) (Nat.le_trans hbs hb.size) hl4 ⟨by omega, by omega⟩ ⟨0, ⟨1, ow, ep, ln, l⟩, a, c⟩ (by show 2 ≤ l.length ∧ l.length ≤ 8; rw [hlm]; exact ⟨hgp.1, hgp.2.1⟩) (HA.out.keep hb)
      refine this.mono ?_
      rintro e w' ⟨rfl, v', g, c', hm, hf⟩
      refine ⟨rfl, rfl, _, ⟨v', _, rfl, ?_, ?_, ?_⟩, (Fr.ofBelow hb).trans hf⟩
      · have : (Sm.live (Sm.bm (es.map (·.s)) s) : Int) = Sm.live (es.map (·.s)) + 1 := by
          unfold Sm.bm
          rw [q3, if_pos rfl, Sm.live_app, hs, if_neg (show ¬ (1 : Int) = 3 by decide)]
          rfl
        rw [this]
        exact hm
      · unfold Sm.bm
        rw [q3, if_pos rfl, List.map_append, ← hs]
        rfl
      · exact HG.out.begin (by rw [hs])
    have hbv : Sm.bv (es.map (·.s)) s = es.length := by unfold Sm.bv; rw [q3, if_pos rfl, List.length_map]
    rw [hbv, q3]
    clear q0 q1 q2 q3 hs HNO k0 k1 k2 k3 k4 k5 HK hlm hgp hl4 hbv HG HI HA
    go_enter Try.func26, Try.ntmps26
    go_wp2_with fail
    rw [HW1.out]
    refine hmb.mono ?_
    rintro e w1 ⟨rfl, hb⟩
    have hrm := HR.out w1 (bel_up HB1.out hb (Nat.le_refl _))
    have had := HAD.out w1 (bel_up HB1.out hb (Nat.le_refl _))
    rw [HBB.out]
    obtain ⟨⟨k0, k1, k2, k3, k4, k5⟩, _⟩ := row_cells (bel_row HX.out hb)
    clear HW1 hmb hb HR HAD
    go_wp2_with fail
    refine hrm.mono ?_
    rintro e w1 ⟨rfl, hw1⟩
    subst w1
    clear hrm
    go_wp2_with fail
    refine had.mono ?_
    rintro e w2 ⟨rfl, hdd⟩
    have HQ := Hid_of hdd
    clear had hdd k0 k1 k2 k3 k4 k5
    go_wp2
    go_ret2
    exact HQ.out
end

end Go.Proofs.Ytgcfpihfoekllaa
