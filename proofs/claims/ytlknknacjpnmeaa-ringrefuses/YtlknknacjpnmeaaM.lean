/-
  A bounded row of texts, as plain lists.
-/
namespace Go.Proofs.Ytlknknacjpnmeaa.M

/-- How many may be in. -/
def lim (n : Int) : Int := min (max n 1) 64
theorem lim_le (n : Int) : 1 ≤ lim n ∧ lim n ≤ 64 := by unfold lim; omega
/-- Does a text go in? -/
def ok (mo : Int) (P : List ByteArray) (s : ByteArray) : Bool := decide ((P.length : Int) < mo) && decide (s.size ≤ 65536)
/-- With a text more. -/
def put (mo : Int) (P : List ByteArray) (s : ByteArray) : List ByteArray := bif ok mo P s then P ++ [s] else P
/-- Is there an i-th one? -/
def has (P : List ByteArray) (i : Int) : Bool := decide (0 ≤ i) && decide (i < P.length)
/-- The i-th one. -/
def peek (P : List ByteArray) (i : Int) : ByteArray := bif has P i then (P[i.toNat]?).getD ByteArray.empty else ByteArray.empty
/-- How many go. -/
def cut (P : List ByteArray) (n : Int) : Nat := min n.toNat P.length
theorem cut_le (P : List ByteArray) (n : Int) : cut P n ≤ P.length := by unfold cut; omega
theorem cut_eq (P : List ByteArray) (n : Int) : min (max n 0) (P.length : Int) = (cut P n : Int) := by unfold cut; omega
theorem has_yes {P : List ByteArray} {i : Int} (h : has P i = true) : ∃ k : Nat, ∃ hk : k < P.length, i = (k : Int) ∧ peek P i = P[k] := by
  have h' := h
  simp only [has, Bool.and_eq_true, decide_eq_true_eq] at h'
  obtain ⟨k, rfl⟩ := Int.eq_ofNat_of_zero_le h'.1
  have hk : k < P.length := by omega
  refine ⟨k, hk, rfl, ?_⟩
  unfold peek
  rw [h]
  simp [hk]
theorem has_no {P : List ByteArray} {i : Int} (h : has P i = false) : (i < 0 ∨ (P.length : Int) ≤ i) ∧ peek P i = ByteArray.empty := by
  refine ⟨?_, by unfold peek; rw [h]; rfl⟩
  simp only [has, Bool.and_eq_false_iff, decide_eq_false_iff_not] at h
  omega
theorem ok_yes {mo : Int} {P : List ByteArray} {s : ByteArray} (h : ok mo P s = true) : (P.length : Int) < mo ∧ s.size ≤ 65536 ∧ put mo P s = P ++ [s] := by
  have h' := h
  simp only [ok, Bool.and_eq_true, decide_eq_true_eq] at h'
  exact ⟨h'.1, h'.2, by unfold put; rw [h]; rfl⟩
theorem ok_no {mo : Int} {P : List ByteArray} {s : ByteArray} (h : ok mo P s = false) : (mo ≤ (P.length : Int) ∨ 65536 < s.size) ∧ put mo P s = P := by
  refine ⟨?_, by unfold put; rw [h]; rfl⟩
  simp only [ok, Bool.and_eq_false_iff, decide_eq_false_iff_not] at h
  omega
end Go.Proofs.Ytlknknacjpnmeaa.M
