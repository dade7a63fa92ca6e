/-
  A buffer of bytes of one's own, and what a burst makes of a list of bytes.
-/
import Derived.Test.YtimnhccfmehdoaaE
import Derived.ArgAppend
namespace Go.Proofs.Ytimnhccfmehdoaa
open Go.RowKit
set_option linter.unusedVariables false

/-- A buffer of one's own: the block g, room for cap bytes, the first of which are l. -/
structure Buf (w : World) (base g cap : Nat) (l : List UInt8) : Prop where
  base : base ≤ g
  lt : g < w.heap.size
  le : l.length ≤ cap
  cell : ∀ j (h : j < l.length), w.cell? ⟨g, j, none⟩ = some (.int .u8 (l[j].toNat : Int))
  room : ∀ j, j < cap → (w.cell? ⟨g, j, none⟩).isSome = true ∧ w.frozen? ⟨g, j, none⟩ = false

theorem Buf.alloc {w : World} {base g cap : Nat} {l : List UInt8} (h : Buf w base g cap l) (o : Obj) : Buf (w.alloc o) base g cap l := by
  have e : (w.alloc o).heap[g]? = w.heap[g]? := Below.heap_alloc w o g h.lt
  refine ⟨h.base, by have := h.lt; simp; omega, h.le, fun j hj => ?_, fun j hj => ?_⟩
  · rw [World.cell?_of_block (w := w) e]; exact h.cell j hj
  · rw [World.cell?_of_block (w := w) e, World.frozen?_of_block (w := w) e]; exact h.room j hj

theorem Buf.set {w : World} {base g cap : Nat} {l : List UInt8} (h : Buf w base g cap l) (i : Nat) (hi : i < l.length) (b : UInt8) : Buf (w.setCell ⟨g, i, none⟩ (.int .u8 (b.toNat : Int))) base g cap (l.set i b) := by
  refine ⟨h.base, by have := h.lt; simpa using this, by rw [List.length_set]; exact h.le, fun j hj => ?_, fun j hj => ?_⟩
  · rw [List.length_set] at hj
    rw [List.getElem_set]
    by_cases e : i = j
    · subst e
      rw [if_pos rfl, World.cell?_setCell_same w _ _ (h.cell i hi)]
    · rw [if_neg e, World.cell?_setCell_other w _ _ _ (fun h => e (congrArg Addr.off h))]
      exact h.cell j hj
  · rw [World.frozen?_setCell]
    refine ⟨?_, (h.room j hj).2⟩
    by_cases e : i = j
    · subst e
      rw [World.cell?_setCell_same w _ _ (h.cell i hi)]; rfl
    · rw [World.cell?_setCell_other w _ _ _ (fun h => e (congrArg Addr.off h))]; exact (h.room j hj).1

theorem Buf.convert {w : World} {base g cap n : Nat} {l : List UInt8} (h : Buf w base g cap l) (hn : n = l.length) : (Go.convert 40 9 (.slice (some ⟨g, 0, none⟩) n cap)).run Try.prog w = .ok (.string (ofL l)) w := by
  subst hn
  refine run_convert_bytes_back w 40 9 5 ⟨g, 0, none⟩ cap l Try.underlying40 Try.underlying5 Try.underlying9 fun j hj => ?_
  rw [show ((⟨g, 0, none⟩ : Addr).add j) = ⟨g, j, none⟩ by unfold Addr.add; split <;> simp_all]
  exact h.cell j hj

/-- What making bytes of a text leaves. -/
theorem buf_of_text (s : ByteArray) (w : World) : ∃ cap w1, (Go.convert 9 40 (.string s)).run Try.prog w = .ok (.slice (some ⟨w.heap.size, 0, none⟩) s.size cap) w1 ∧ Buf w1 w.heap.size w.heap.size cap s.data.toList ∧ Below w.heap.size w w1 := by
  refine ⟨_, _, run_bytes_of_string (P := Try.prog) w 9 40 5 s Try.underlying9 Try.underlying40 Try.underlying5, ?_, ((Below.refl _ _).drew).alloc (Nat.le_refl _) _⟩
  have hge := grownCap_ge w s.size 0 5
  generalize grownCap w s.size 0 5 = cap at *
  have hsz : (bytesRow s cap).size = cap := by
    simp [bytesRow]
    have : s.data.size = s.size := rfl
    omega
  have hh : (w.drew.alloc (.cells (bytesRow s cap) 5 ((bytesRow s cap).size, (bytesRow s cap).size + 1))).heap[w.heap.size]? = some (.cells (bytesRow s cap) 5 ((bytesRow s cap).size, (bytesRow s cap).size + 1)) := heap_alloc_new w.drew _
  refine ⟨Nat.le_refl _, by simp, by rw [len_data]; exact hge, fun j hj => ?_, fun j hj => ?_⟩
  · rw [cell_of_row _ _ _ _ _ _ hh]
    rw [len_data] at hj
    have hj' : j < s.data.size := hj
    unfold bytesRow
    rw [Array.getElem?_append_left (by simpa using hj')]
    simp
    exact ⟨_, Array.getElem?_eq_getElem hj', rfl⟩
  · refine ⟨?_, ?_⟩
    · rw [cell_of_row _ _ _ _ _ _ hh]
      simp [hsz]
      exact hj
    · simp only [World.frozen?, hh]
      rw [hsz, Bool.and_eq_false_imp]
      intro h
      have := of_decide_eq_true h
      omega


/-- What j rounds of the burst leave. -/
def brst (l : List UInt8) (k : Nat) (y : BitVec 32) : Nat → List UInt8
  | 0 => l
  | j + 1 => (brst l k y j).set (k + j) ((brst l k y j).getD (k + j) 0 ^^^ M.byte y (8 * j))
theorem brst_length (l : List UInt8) (k : Nat) (y : BitVec 32) (j : Nat) : (brst l k y j).length = l.length := by
  induction j with
  | zero => rfl
  | succ j ih => rw [brst, List.length_set, ih]
theorem split4 (l : List UInt8) (k : Nat) (h : k + 4 ≤ l.length) : ∃ p a b c d q, l = p ++ [a, b, c, d] ++ q ∧ p.length = k := by
  refine ⟨l.take k, l[k], l[k + 1], l[k + 2], l[k + 3], l.drop (k + 4), ?_, ?_⟩
  · have h0 : l.drop k = [l[k], l[k + 1], l[k + 2], l[k + 3]] ++ l.drop (k + 4) := by
      rw [List.drop_eq_getElem_cons (by omega), List.drop_eq_getElem_cons (i := k + 1) (by omega), List.drop_eq_getElem_cons (i := k + 1 + 1) (by omega), List.drop_eq_getElem_cons (i := k + 1 + 1 + 1) (by omega)]
      rfl
    rw [List.append_assoc, ← h0, List.take_append_drop]
  · rw [List.length_take]
    omega
theorem brst_four (p q : List UInt8) (a b c d : UInt8) (y : BitVec 32) : brst (p ++ [a, b, c, d] ++ q) p.length y 4 = p ++ M.zipx [a, b, c, d] (M.four y) ++ q := by
  simp [brst, M.zipx, M.four]
/-- A burst undoes every seal. -/
theorem brst_seal (l t : List UInt8) (k : Nat) (y : BitVec 32) (hk : k ≤ l.length) (hy : y ≠ 0#32) : brst (M.sealed l) k y 4 ≠ M.sealed t := by
  obtain ⟨p, a, b, c, d, q, h, rfl⟩ := split4 (M.sealed l) k (by rw [M.seal_len]; omega)
  rw [h, brst_four]
  exact M.burst p [a, b, c, d] q y rfl hy l t h.symm
end Go.Proofs.Ytimnhccfmehdoaa
