/-
  What each deed tells, case by case.
-/
import Derived.Test.YtacfndfkoiifhaaMC
namespace Go.Proofs.Ytacfndfkoiifhaa
namespace Mb

theorem fc_cases (s : S) (a b : Int) : (pl s.l a < 0 ∧ fc s a b = 7) ∨ (0 ≤ pl s.l a ∧ 0 ≤ s.hole ∧ fc s a b = 9) ∨ (0 ≤ pl s.l a ∧ s.hole < 0 ∧ b ≠ s.ep ∧ fc s a b = 10) ∨ (0 ≤ pl s.l a ∧ s.hole < 0 ∧ b = s.ep ∧ fc s a b = 0) := by
  unfold fc
  by_cases h1 : pl s.l a < 0
  · exact .inl ⟨h1, if_pos h1⟩
  · rw [if_neg h1]
    by_cases h2 : 0 ≤ s.hole
    · exact .inr (.inl ⟨by omega, h2, if_pos h2⟩)
    · rw [if_neg h2]
      by_cases h3 : b ≠ s.ep
      · exact .inr (.inr (.inl ⟨by omega, by omega, h3, if_pos h3⟩))
      · exact .inr (.inr (.inr ⟨by omega, by omega, Classical.not_not.1 h3, if_neg h3⟩))
theorem wc_cases (s : S) (a : Int) : (s.sp = [] ∧ wc s a = 7) ∨ (s.sp ≠ [] ∧ a ≠ s.ep ∧ wc s a = 10) ∨ (s.sp ≠ [] ∧ a = s.ep ∧ s.hole < 0 ∧ wc s a = 16) ∨ (s.sp ≠ [] ∧ a = s.ep ∧ 0 ≤ s.hole ∧ s.fl = true ∧ wc s a = 16) ∨ (s.sp ≠ [] ∧ a = s.ep ∧ 0 ≤ s.hole ∧ s.fl = false ∧ wc s a = 0) := by
  unfold wc
  by_cases h1 : s.sp = []
  · exact .inl ⟨h1, if_pos h1⟩
  · rw [if_neg h1]
    by_cases h2 : a ≠ s.ep
    · exact .inr (.inl ⟨h1, h2, if_pos h2⟩)
    · rw [if_neg h2]
      have h2' := Classical.not_not.1 h2
      by_cases h3 : s.hole < 0
      · exact .inr (.inr (.inl ⟨h1, h2', h3, if_pos (.inl h3)⟩))
      · cases h4 : s.fl with
        | true => exact .inr (.inr (.inr (.inl ⟨h1, h2', by omega, rfl, if_pos (.inr rfl)⟩)))
        | false => exact .inr (.inr (.inr (.inr ⟨h1, h2', by omega, rfl, if_neg (by simp; omega)⟩)))
theorem dc_cases {s : S} (g : G s) (a : Int) : (a ≠ s.ep ∧ dc s a = 10) ∨ (a = s.ep ∧ s.fl = false ∧ dc s a = 16) ∨ (a = s.ep ∧ s.fl = true ∧ 0 ≤ s.hole ∧ dc s a = 0) := by
  unfold dc
  by_cases h2 : a ≠ s.ep
  · exact .inl ⟨h2, if_pos h2⟩
  · rw [if_neg h2]
    have h2' := Classical.not_not.1 h2
    cases h4 : s.fl with
    | false => exact .inr (.inl ⟨h2', rfl, if_pos (.inr rfl)⟩)
    | true =>
      by_cases h3 : s.hole < 0
      · have := (g.no h3).1
        rw [h4] at this
        cases this
      · exact .inr (.inr ⟨h2', rfl, by omega, if_neg (by simp; omega)⟩)
theorem ap3 {l sp : List Int} {a : Int} (h : Ap (l ++ sp)) (ha : 0 ≤ a ∧ a ≤ 63) : Ap (l ++ (sp ++ [a])) ↔ ¬ a ∈ l ∧ ¬ a ∈ sp := by
  rw [← List.append_assoc, ap_snoc]
  simp only [List.mem_append, not_or]
  exact ⟨fun x => x.2.2, fun x => ⟨h, ha, x⟩⟩
theorem ac_cases {s : S} (g : G s) (a : Int) : (¬ (0 ≤ a ∧ a ≤ 63) ∧ ac s a = 1) ∨ ((0 ≤ a ∧ a ≤ 63) ∧ apB (s.l ++ (s.sp ++ [a])) = false ∧ ac s a = 6) ∨ ((0 ≤ a ∧ a ≤ 63) ∧ apB (s.l ++ (s.sp ++ [a])) = true ∧ a = s.gone ∧ ac s a = 6) ∨ ((0 ≤ a ∧ a ≤ 63) ∧ apB (s.l ++ (s.sp ++ [a])) = true ∧ a ≠ s.gone ∧ ac s a = 0) := by
  unfold ac
  by_cases h1 : a < 0 ∨ 63 < a
  · exact .inl ⟨by omega, if_pos h1⟩
  · rw [if_neg h1]
    have ha : 0 ≤ a ∧ a ≤ 63 := by omega
    by_cases hm : ¬ a ∈ s.l ∧ ¬ a ∈ s.sp
    · have hb := apB_eq.2 ((ap3 g.ap ha).2 hm)
      have n1 : ¬ 0 ≤ pl s.l a := fun e => hm.1 (pl_ge.1 e)
      have n2 : ¬ 0 ≤ pl s.sp a := fun e => hm.2 (pl_ge.1 e)
      by_cases h3 : a = s.gone
      · exact .inr (.inr (.inl ⟨ha, hb, h3, if_pos (.inr (.inr h3))⟩))
      · exact .inr (.inr (.inr ⟨ha, hb, h3, if_neg (by rintro (e | e | e) <;> contradiction)⟩))
    · have hb := apB_no (fun e => hm ((ap3 g.ap ha).1 e))
      refine .inr (.inl ⟨ha, hb, if_pos ?_⟩)
      by_cases q : a ∈ s.l
      · exact .inl (pl_ge.2 q)
      · exact .inr (.inl (pl_ge.2 (Classical.not_not.1 fun e => hm ⟨q, e⟩)))
end Mb
end Go.Proofs.Ytacfndfkoiifhaa
