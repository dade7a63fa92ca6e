/-
  A slice of texts that came in, as the walks of this seat take it: its address, its texts, and that each of them is within the form's reach.
-/
import Derived.Test.YtnflpmaeekgmjaaK
import Derived.SliceStrings
import Derived.ChangeOld
import Derived.Below
namespace Go.Proofs.Ytnflpmaeekgmjaa
open Go.ChangeShapes Go.WideShapes Go.ChangeAt Go.RowKit

theorem laidOut : laidOutB Try.prog = true := by kernel_rfl
theorem Try.cells9 : Try.prog.cellsOf 9 = 1 := by kernel_rfl

theorem texts_came {w : World} {a : Addr} {ss : List ByteArray} {len : Nat} (hc : ∀ i, i < ss.length → w.cell? (a.add i) = some (.string (ss.getD i ByteArray.empty))) : Texts w (some a) (ss.take len) := by
  intro j hj
  rw [List.length_take] at hj
  obtain ⟨b, off, spot⟩ := a
  have h := hc j (by omega)
  have hspot : spot = none := by simpa [Addr.add] using World.cell?_spot (hc 0 (by omega))
  subst hspot
  refine ⟨b, off, rfl, ?_⟩
  rw [show ((⟨b, off, none⟩ : Addr).add j) = ⟨b, off + j, none⟩ by unfold Addr.add; split <;> simp_all] at h
  rw [h]
  simp [show j < ss.length by omega]

theorem weights_strs {H : Type} (P : Program) (e : TypeId) (l : List ByteArray) (s : ByteArray) (hs : s ∈ l) : s.size ∈ DataW.weightsAll P e (strs l : List (DataW H)) := by
  induction l with
  | nil => cases hs
  | cons t l ih =>
    show s.size ∈ DataW.weights P e (.lit (.string t.data.toList)) ++ DataW.weightsAll P e (strs l)
    rw [List.mem_append]
    rcases List.mem_cons.1 hs with rfl | h
    · left
      simp only [DataW.weights, List.mem_singleton]
      exact (len_data s).symm
    · exact .inr (ih h)

theorem sized_texts {H : Type} {ts : List TypeId} {ds : List (DataW H)} (h : (DataW.weightsEach Try.prog ts ds).all (· ≤ reachBytes) = true) {j : Nat} {l r : List ByteArray} (ht : ts[j]? = some 22) (hd : ds[j]? = some (.slice (strs l) (strs r))) (s : ByteArray) (hs : s ∈ l) : s.size ≤ 140737488351232 := by
  have := List.all_eq_true.1 h _ (DataW.weights_mem_each ht hd s.size (by
    simp only [DataW.weights, Try.underlying22, List.mem_cons, List.mem_append]
    exact .inr (.inl (weights_strs _ _ _ _ hs))))
  exact of_decide_eq_true this

end Go.Proofs.Ytnflpmaeekgmjaa
