/-
  Numbers of servers: where one stands, are they apart.
-/
namespace Go.Proofs.Ytgcfpihfoekllaa
namespace Mb

/-- A number's place; -1: none. -/
def pl (l : List Int) (n : Int) : Int := if n ∈ l then (l.idxOf n : Int) else -1
theorem pl_no {l : List Int} {n : Int} (h : ¬ n ∈ l) : pl l n = -1 := by unfold pl; rw [if_neg h]
theorem idx_at : ∀ {l : List Int} {k : Nat} (hk : k < l.length), ¬ l[k] ∈ l.take k → l.idxOf l[k] = k
  | x :: l, 0, _, _ => by simp
  | x :: l, k + 1, hk, h => by
    have hk' : k < l.length := by simpa using hk
    have h1 : ¬ l[k] = x ∧ ¬ l[k] ∈ l.take k := by simpa [List.take_succ_cons] using h
    have h2 : x ≠ l[k] := fun e => h1.1 e.symm
    have := idx_at hk' h1.2
    rw [List.getElem_cons_succ, List.idxOf_cons, beq_false_of_ne h2, this]
    rfl
theorem pl_at {l : List Int} {k : Nat} (hk : k < l.length) (h : ¬ l[k] ∈ l.take k) : pl l l[k] = k := by
  unfold pl
  rw [if_pos (List.getElem_mem hk), idx_at hk h]
theorem pl_lt {l : List Int} {n : Int} (h : n ∈ l) : 0 ≤ pl l n ∧ pl l n < l.length ∧ ∃ hk : (pl l n).toNat < l.length, l[(pl l n).toNat] = n := by
  have h1 : l.idxOf n < l.length := List.idxOf_lt_length_iff.2 h
  have e : pl l n = (l.idxOf n : Int) := by unfold pl; rw [if_pos h]
  rw [e]
  refine ⟨Int.natCast_nonneg _, by omega, ?_⟩
  rw [Int.toNat_natCast]
  exact ⟨h1, List.getElem_idxOf h1⟩
theorem pl_neg {l : List Int} {n : Int} : pl l n < 0 ↔ ¬ n ∈ l := by
  constructor
  · intro h hm
    have := (pl_lt hm).1
    omega
  · intro h
    rw [pl_no h]
    decide
theorem pl_ge {l : List Int} {n : Int} : 0 ≤ pl l n ↔ n ∈ l := by
  constructor
  · intro h
    by_cases hm : n ∈ l
    · exact hm
    · rw [pl_no hm] at h
      exact absurd h (by decide)
  · exact fun h => (pl_lt h).1
/-- May these be numbers of one group? -/
def Ap (l : List Int) : Prop := (∀ x ∈ l, 0 ≤ x ∧ x ≤ 63) ∧ l.Nodup
theorem Ap.left {a b : List Int} (h : Ap (a ++ b)) : Ap a := ⟨fun x hx => h.1 x (List.mem_append_left _ hx), (List.nodup_append.1 h.2).1⟩
theorem Ap.right {a b : List Int} (h : Ap (a ++ b)) : Ap b := ⟨fun x hx => h.1 x (List.mem_append_right _ hx), (List.nodup_append.1 h.2).2.1⟩
theorem Ap.apart {a b : List Int} (h : Ap (a ++ b)) {x : Int} (hx : x ∈ a) : ¬ x ∈ b := fun hb => (List.nodup_append.1 h.2).2.2 x hx x hb rfl
/-- One number more: the walk's step. -/
theorem Ap.step {l : List Int} {k : Nat} (hk : k < l.length) : Ap (l.take (k + 1)) ↔ Ap (l.take k) ∧ (0 ≤ l[k] ∧ l[k] ≤ 63) ∧ pl (l.take k) l[k] < 0 := by
  rw [pl_neg, List.take_succ_eq_append_getElem hk]
  unfold Ap
  constructor
  · rintro ⟨h1, h2⟩
    rw [List.nodup_append] at h2
    exact ⟨⟨fun x hx => h1 x (List.mem_append_left _ hx), h2.1⟩, h1 _ (List.mem_append_right _ (List.mem_singleton.2 rfl)), fun hm => h2.2.2 _ hm _ (List.mem_singleton.2 rfl) rfl⟩
  · rintro ⟨⟨h1, h2⟩, h3, h4⟩
    refine ⟨fun x hx => ?_, ?_⟩
    · rcases List.mem_append.1 hx with hx | hx
      · exact h1 x hx
      · rw [List.mem_singleton] at hx
        subst hx
        exact h3
    · rw [List.nodup_append]
      refine ⟨h2, by simp, fun x hx y hy e => ?_⟩
      rw [List.mem_singleton] at hy
      subst hy e
      exact h4 hx
theorem len_le : ∀ (n : Nat) (l : List Int), l.Nodup → (∀ x ∈ l, 0 ≤ x ∧ x < (n : Int)) → l.length ≤ n
  | 0, l, _, h => by
    cases l with
    | nil => exact Nat.le_refl _
    | cons x l => have := h x (List.mem_cons_self ..); omega
  | n + 1, l, hn, h => by
    by_cases hm : (n : Int) ∈ l
    · have h1 := len_le n (l.erase (n : Int)) (hn.erase _) (fun x hx => by
        have h2 := (hn.mem_erase_iff).1 hx
        have := h x h2.2
        have := h2.1
        omega)
      rw [List.length_erase_of_mem hm] at h1
      omega
    · have h1 := len_le n l hn (fun x hx => by
        have := h x hx
        have h2 : x ≠ (n : Int) := fun e => hm (e ▸ hx)
        omega)
      omega
/-- At most 64 numbers. -/
theorem Ap.len {l : List Int} (h : Ap l) : l.length ≤ 64 := len_le 64 l h.2 fun x hx => by have := h.1 x hx; omega
/-- May servers be a group? -/
def Gp (l : List Int) : Prop := 2 ≤ l.length ∧ l.length ≤ 8 ∧ Ap l
end Mb
end Go.Proofs.Ytgcfpihfoekllaa
