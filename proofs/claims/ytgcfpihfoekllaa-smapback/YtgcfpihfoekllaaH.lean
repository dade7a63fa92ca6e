/-
  What is left behind a reading, and what is known of what was read; what every proof of this seat lifts with.
-/
import Derived.Test.YtgcfpihfoekllaaG
import Derived.ChangeShapes
import Derived.SizedLaws
import Derived.ChangeSlices
import Derived.SliceStrings
import Derived.ChangeOld
import Derived.OpenShut
namespace Go.Proofs.Ytgcfpihfoekllaa
open Go.RowKit
set_option linter.unusedVariables false

namespace M
theorem many_all {α : Type} (f : List UInt8 → Option (α × List UInt8)) (P : α → Prop) (hf : ∀ l x r, f l = some (x, r) → P x) :
    ∀ (n : Nat) (l : List UInt8) (xs : List α) (r : List UInt8), many f n l = some (xs, r) → ∀ x ∈ xs, P x := by
  intro n
  induction n with
  | zero => intro l xs r h; simp only [many, Option.some.injEq, Prod.mk.injEq] at h; obtain ⟨rfl, rfl⟩ := h; simp
  | succ n ih =>
    intro l xs r h
    rw [many] at h
    split at h
    · cases h
    · rename_i x r1 h1
      split at h
      · cases h
      · rename_i ys r2 h2
        simp only [Option.some.injEq, Prod.mk.injEq] at h
        obtain ⟨rfl, rfl⟩ := h
        intro y hy
        rcases List.mem_cons.1 hy with rfl | h'
        · exact hf l y r1 h1
        · exact ih r1 ys r2 h2 y h'
theorem many_le {α : Type} (f : List UInt8 → Option (α × List UInt8)) (hf : ∀ l x r, f l = some (x, r) → r.length < l.length) :
    ∀ (n : Nat) (l : List UInt8) (xs : List α) (r : List UInt8), many f n l = some (xs, r) → r.length ≤ l.length := by
  intro n
  induction n with
  | zero => intro l xs r h; simp only [many, Option.some.injEq, Prod.mk.injEq] at h; obtain ⟨rfl, rfl⟩ := h; simp
  | succ n ih =>
    intro l xs r h
    rw [many] at h
    split at h
    · cases h
    · rename_i x r1 h1
      split at h
      · cases h
      · rename_i ys r2 h2
        simp only [Option.some.injEq, Prod.mk.injEq] at h
        obtain ⟨rfl, rfl⟩ := h
        have := ih r1 ys r2 h2
        have := hf l x r1 h1
        omega
theorem ints_all (l : List UInt8) (xs : List Int) (r : List UInt8) (h : ints l = some (xs, r)) : (∀ n ∈ xs, -9223372036854775808 ≤ n ∧ n ≤ 9223372036854775807) ∧ xs.length ≤ l.length ∧ r.length ≤ l.length := by
  unfold ints at h
  split at h
  · cases h
  · rename_i n r' hc
    have hl := count_len l n r' hc
    have h1 := many_le int int_len n r' xs r h
    have h2 := many_len int n r' xs r h
    exact ⟨many_all int _ int_bd n r' xs r h, by omega, by omega⟩
theorem texts_all (l : List UInt8) (xs : List (List UInt8)) (r : List UInt8) (h : texts l = some (xs, r)) : xs.length ≤ l.length ∧ r.length ≤ l.length := by
  unfold texts at h
  split at h
  · cases h
  · rename_i n r' hc
    have hl := count_len l n r' hc
    have h1 := many_le text text_len n r' xs r h
    have h2 := many_len text n r' xs r h
    exact ⟨by omega, by omega⟩
theorem text_size (l s r : List UInt8) (h : text l = some (s, r)) : s.length ≤ l.length := by
  have := text_only l s r h
  subst this
  simp [encT]
  omega
end M

theorem nx_le {α : Type} {o : Option (α × List UInt8)} {n : Nat} (h : ∀ x r, o = some (x, r) → r.length ≤ n) : (lft (nx o)).length ≤ n := by
  cases o with
  | none => exact Nat.zero_le _
  | some p => exact h p.1 p.2 rfl
theorem int_left (l : List UInt8) : (lft (nx (M.int l))).length ≤ l.length := nx_le fun x r h => Nat.le_of_lt (M.int_len l x r h)
theorem byte_left (l : List UInt8) : (lft (nx (M.byte l))).length ≤ l.length := by
  cases l with
  | nil => exact Nat.zero_le _
  | cons c r => exact Nat.le_succ _
theorem text_left (l : List UInt8) : (lft (nx (M.text l))).length ≤ l.length := nx_le fun x r h => Nat.le_of_lt (M.text_len l x r h)
theorem ints_left (l : List UInt8) : (lft (nx (M.ints l))).length ≤ l.length := nx_le fun x r h => (M.ints_all l x r h).2.2
theorem texts_left (l : List UInt8) : (lft (nx (M.texts l))).length ≤ l.length := nx_le fun x r h => (M.texts_all l x r h).2
theorem rdone_eq (st : Option (List UInt8)) : rdone st = 0 ∧ st = some [] ∨ rdone st = 3 ∧ st ≠ some [] := by
  match st with
  | none => exact .inr ⟨rfl, by simp⟩
  | some [] => exact .inl ⟨rfl, rfl⟩
  | some (c :: r) => exact .inr ⟨rfl, by simp⟩

end Go.Proofs.Ytgcfpihfoekllaa
