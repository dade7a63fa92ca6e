/-
  The chapter's example.
-/
import Derived.Test.YtigoadfbccpmkaaG
import Derived.Test.YtigoadfbccpmkaaK
namespace Go.Proofs.Ytigoadfbccpmkaa
open Go.RowKit
set_option linter.unusedVariables false

theorem bgrow {W b : Nat} {w w1 w2 : World} (h : Below W w w1) (hw : W ≤ w.heap.size) (hb : W ≤ b) (g : w1.grownBy w2 (some b)) : Below W w w2 :=
  h.grown g (Nat.le_trans hw h.size) (fun k hk => by simp at hk; omega)
def a1 : Nat → Bool := setf 8 M.nof 0 true
def a2 : Nat → Bool := setf 8 a1 3 true
def a3 : Nat → Bool := setf 8 a2 8 true
def a4 : Nat → Bool := takf 8 a3 2
def a5 : Nat → Bool := M.notf a4 (M.rowf 1 3)
theorem a_p : takp 8 a3 2 = 1 ∧ take 8 a3 2 = 0 := by decide +kernel
theorem a_e1 : eqw (M.andf a4 (M.rowf 1 3)) (M.rowf 1 3) = true := by decide +kernel
theorem a_e2 : eqw (M.andf a5 (M.rowf 1 1)) (M.rowf 1 1) = false := by decide +kernel
theorem a_t : textOf a5 8 = [1] := by decide +kernel
theorem a_c : M.cnt a5 0 8 = 1 := by decide +kernel
theorem a_f : M.find a5 8 7 = 1 := by decide +kernel
theorem a_r : rdE [1] 8 = 0 := by decide +kernel
theorem a_g : gt 8 (fs [1]) 0 = true ∧ gt 8 (fs [1]) 1 = false := by decide +kernel
set_option maxRecDepth 100000 in
set_option maxHeartbeats 4000000 in
theorem awake_any (w : World) : Calls Try.prog 8 #[] w fun e w' => e = .returned (.bool true) ∧ Below w.heap.size w w' := by
  have hts : ofL [1] = { data := #[1] } := rfl
  go_enter Try.func8, Try.ntmps8
  go_wp2_with fail
  refine (new_any 8 w).mono ?_
  rintro e w1 h
  obtain ⟨b, rfl, hb, m1, B1⟩ := h
  rw [show sz 8 = 8 from rfl] at m1
  go_wp2_with fail
  refine (set_any b 8 M.nof 0 true w1 m1).mono ?_
  rintro e w2 ⟨rfl, m2, g2⟩
  rw [show inb 8 0 = true from rfl]
  have m2 : MIs w2 b 8 a1 := m2
  have B2 := bgrow B1 (Nat.le_refl _) hb g2
  clear g2 B1 m1
  go_wp2_with fail
  refine (set_any b 8 a1 3 true w2 m2).mono ?_
  rintro e w3 ⟨rfl, m3, g3⟩
  rw [show inb 8 3 = true from rfl]
  have m3 : MIs w3 b 8 a2 := m3
  have B3 := bgrow B2 (Nat.le_refl _) hb g3
  clear g3 B2 m2
  go_wp2_with fail
  refine (set_any b 8 a2 8 true w3 m3).mono ?_
  rintro e w4 ⟨rfl, m4, g4⟩
  rw [show inb 8 8 = false from rfl]
  have m4 : MIs w4 b 8 a3 := m4
  have B4 := bgrow B3 (Nat.le_refl _) hb g4
  clear g4 B3 m3
  go_wp2_with fail
  refine (take_any b 8 a3 2 w4 m4).mono ?_
  rintro e w5 ⟨rfl, m5, g5⟩
  rw [a_p.1, a_p.2]
  have m5 : MIs w5 b 8 a4 := m5
  have B5 := bgrow B4 (Nat.le_refl _) hb g5
  clear g5 B4 m4
  go_wp2_with fail
  refine (free_in b 8 a4 1 3 w5 m5 (by decide) (by decide)).mono ?_
  rintro e w6 ⟨rfl, m6, g6⟩
  rw [a_e1] at m6 ⊢
  rw [if_pos rfl] at m6 ⊢
  have m6 : MIs w6 b 8 a5 := m6
  have B6 := bgrow B5 (Nat.le_refl _) hb g6
  clear g6 B5 m5
  go_wp2_with fail
  refine (free_in b 8 a5 1 1 w6 m6 (by decide) (by decide)).mono ?_
  rintro e w7 ⟨rfl, m7, g7⟩
  rw [a_e2] at m7 ⊢
  simp only [Bool.false_eq_true, if_false] at m7 ⊢
  have B7 := bgrow B6 (Nat.le_refl _) hb g7
  clear g7 B6 m6
  go_wp2_with fail
  refine (read_any { data := #[1] } 8 w7).mono ?_
  rintro e w8 ⟨B8', h8⟩
  rw [if_pos (show rdE (ByteArray.mk #[1]).data.toList 8 = 0 from a_r)] at h8
  obtain ⟨c, rfl, hc, mc⟩ := h8
  have mc : MIs w8 c 8 (fs [1]) := mc
  have m8 := m7.below B8'
  have B8 := B7.trans (B8'.mono B7.size)
  clear m7 B7 B8'
  go_wp2_with fail
  refine (text_any b 8 a5 w8 m8).mono ?_
  rintro e w9 ⟨rfl, B9'⟩
  rw [a_t, hts]
  have m9 := m8.below B9'
  have mc9 := mc.below B9'
  have B9 := B8.trans (B9'.mono B8.size)
  clear m8 mc B8 B9'
  go_wp2_with fail
  refine (count_any b 8 a5 w9 m9).mono ?_
  rintro e w10 ⟨rfl, rfl⟩
  rw [a_c]
  go_wp2_with fail
  refine (find_any b 8 a5 7 w10 m9).mono ?_
  rintro e w11 ⟨rfl, B11'⟩
  rw [a_f]
  have mc11 := mc9.below B11'
  have B11 := B9.trans (B11'.mono B9.size)
  clear m9 mc9 B9 B11'
  go_wp2_with fail
  refine (get_any c 8 (fs [1]) 0 w11 mc11).mono ?_
  rintro e w12 ⟨rfl, rfl⟩
  rw [a_g.1]
  go_wp2_with fail
  refine (get_any c 8 (fs [1]) 1 w12 mc11).mono ?_
  rintro e w13 ⟨rfl, rfl⟩
  rw [a_g.2]
  go_wp2
  go_ret
  exact ⟨rfl, B11⟩
end Go.Proofs.Ytigoadfbccpmkaa
