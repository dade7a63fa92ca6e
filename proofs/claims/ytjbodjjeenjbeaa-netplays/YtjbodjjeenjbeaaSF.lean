/-
  A buffer of bytes of one's own, and what a burst makes of a list of bytes.
-/
import Derived.Test.YtjbodjjeenjbeaaSD
import Derived.ArgAppend
namespace Go.Proofs.Ytjbodjjeenjbeaa
open Go.RowKit
set_option linter.unusedVariables false

/-- A buffer of one's own: the block g, room for cap bytes, the first of which are l. -/
structure Buf (w : World) (base g cap : Nat) (l : List UInt8) : Prop where
  base : base ≤ g
  lt : g < w.heap.size
  le : l.length ≤ cap
  cell : ∀ j (h : j < l.length), w.cell? ⟨g, j, none⟩ = some (.int .u8 (l[j].toNat : Int))
  room : ∀ j, j < cap → (w.cell? ⟨g, j, none⟩).isSome = true ∧ w.frozen? ⟨g, j, none⟩ = false

theorem Buf.alloc {w : World} {base g cap : Nat} {l : List UInt8} (h : Buf w base g cap l) (o : Obj) : Buf (w.alloc o) base g cap l := by
  have e : (w.alloc o).heap[g]? = w.heap[g]? := Below.heap_alloc w o g h.lt
  refine ⟨h.base, by have := h.lt; simp; omega, h.le, fun j hj => ?_, fun j hj => ?_⟩
  · rw [World.cell?_of_block (w := w) e]; exact h.cell j hj
  · rw [World.cell?_of_block (w := w) e, World.frozen?_of_block (w := w) e]; exact h.room j hj

theorem Buf.set {w : World} {base g cap : Nat} {l : List UInt8} (h : Buf w base g cap l) (i : Nat) (hi : i < l.length) (b : UInt8) : Buf (w.setCell ⟨g, i, none⟩ (.int .u8 (b.toNat : Int))) base g cap (l.set i b) := by
  refine ⟨h.base, by have := h.lt; simpa using this, by rw [List.length_set]; exact h.le, fun j hj => ?_, fun j hj => ?_⟩
  · rw [List.length_set] at hj
    rw [List.getElem_set]
    by_cases e : i = j
    · subst e
      rw [if_pos rfl, World.cell?_setCell_same w _ _ (h.cell i hi)]
    · rw [if_neg e, World.cell?_setCell_other w _ _ _ (fun h => e (congrArg Addr.off h))]
      exact h.cell j hj
  · rw [World.frozen?_setCell]
    refine ⟨?_, (h.room j hj).2⟩
    by_cases e : i = j
    · subst e
      rw [World.cell?_setCell_same w _ _ (h.cell i hi)]; rfl
    · rw [World.cell?_setCell_other w _ _ _ (fun h => e (congrArg Addr.off h))]; exact (h.room j hj).1

theorem Buf.convert {w : World} {base g cap n : Nat} {l : List UInt8} (h : Buf w base g cap l) (hn : n = l.length) : (Go.convert 84 9 (.slice (some ⟨g, 0, none⟩) n cap)).run Try.prog w = .ok (.string (ofL l)) w := by
  subst hn
  refine run_convert_bytes_back w 84 9 5 ⟨g, 0, none⟩ cap l Try.underlying84 Try.underlying5 Try.underlying9 fun j hj => ?_
  rw [show ((⟨g, 0, none⟩ : Addr).add j) = ⟨g, j, none⟩ by unfold Addr.add; split <;> simp_all]
  exact h.cell j hj

/-- What making bytes of a text leaves. -/
theorem buf_of_text (s : ByteArray) (w : World) : ∃ cap w1, (Go.convert 9 84 (.string s)).run Try.prog w = .ok (.slice (some ⟨w.heap.size, 0, none⟩) s.size cap) w1 ∧ Buf w1 w.heap.size w.heap.size cap s.data.toList ∧ Below w.heap.size w w1 := by
  refine ⟨_, _, run_bytes_of_string (P := Try.prog) w 9 84 5 s Try.underlying9 Try.underlying84 Try.underlying5, ?_, ((Below.refl _ _).drew).alloc (Nat.le_refl _) _⟩
  have hge := grownCap_ge w s.size 0 5
  generalize grownCap w s.size 0 5 = cap at *
  have hsz : (bytesRow s cap).size = cap := by
    simp [bytesRow]
    have : s.data.size = s.size := rfl
    omega
  have hh : (w.drew.alloc (.cells (bytesRow s cap) 5 ((bytesRow s cap).size, (bytesRow s cap).size + 1))).heap[w.heap.size]? = some (.cells (bytesRow s cap) 5 ((bytesRow s cap).size, (bytesRow s cap).size + 1)) := heap_alloc_new w.drew _
  refine ⟨Nat.le_refl _, by simp, by rw [len_data]; exact hge, fun j hj => ?_, fun j hj => ?_⟩
  · rw [cell_of_row _ _ _ _ _ _ hh]
    rw [len_data] at hj
    have hj' : j < s.data.size := hj
    unfold bytesRow
    rw [Array.getElem?_append_left (by simpa using hj')]
    simp
    exact ⟨_, Array.getElem?_eq_getElem hj', rfl⟩
  · refine ⟨?_, ?_⟩
    · rw [cell_of_row _ _ _ _ _ _ hh]
      simp [hsz]
      exact hj
    · simp only [World.frozen?, hh]
      rw [hsz, Bool.and_eq_false_imp]
      intro h
      have := of_decide_eq_true h
      omega


end Go.Proofs.Ytjbodjjeenjbeaa
