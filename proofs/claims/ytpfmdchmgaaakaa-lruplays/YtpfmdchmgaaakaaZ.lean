/-
  Both caches side by side: the program's, and the document's.
-/
import Derived.Test.YtpfmdchmgaaakaaY
import Derived.Test.YtpfmdchmgaaakaaP
import Derived.Test.YtpfmdchmgaaakaaQ
namespace Go.Proofs.Ytpfmdchmgaaakaa
open Go.RowKit
set_option linter.unusedVariables false
open M (K)

theorem CI.keepBut {w w' : World} {c m n : Nat} {most : Int} {L : List (Nat × K)} (h : CI w c m n most L) (hc : w'.heap[c]? = w.heap[c]?) (hm : w'.heap[m]? = w.heap[m]?) (hl : ∀ b ∈ bs L, w'.heap[b]? = w.heap[b]?) : CI w' c m n most L :=
  ⟨hc.trans h.row, h.lk.keep hl, h.mi.keep hm, h.nd, h.nc, h.g, h.lo, h.hi, h.wf⟩
/-- The program's cache, and the document's in a box at block kb. -/
structure TW (w0 w : World) (c m n : Nat) (most : Int) (L : List (Nat × K)) (kb : Nat) (a : Option Addr) (cap : Nat) (l : List K) : Prop where
  cs : CS w0 w c m n most L
  box : w.heap[kb]? = some (.cells #[.int .i64 most, .slice a l.length cap] 29 (0, 0))
  xe : XE w a cap l
  ak : kb ≠ c ∧ kb ≠ m ∧ kb ∉ bs L
  aa : ∀ b, blk a b → b ≠ c ∧ b ≠ m ∧ b ∉ bs L ∧ b ≠ kb
  al : ∀ b, blk a b → b < w.heap.size
  lo : w0.heap.size ≤ kb
/-- .. with a deed that stands in a block of its own. -/
structure TX (w0 w : World) (c m n : Nat) (most : Int) (L : List (Nat × K)) (kb : Nat) (a : Option Addr) (cap : Nat) (l : List K) (q : Nat) (dk dy : Int) (sv : ByteArray) : Prop where
  t : TW w0 w c m n most L kb a cap l
  deed : w.heap[q]? = some (.cells #[.int .i64 dk, .int .i64 dy, .string sv] 32 (0, 0))
  aq : q ≠ c ∧ q ≠ m ∧ q ∉ bs L ∧ q ≠ kb
section
variable {w0 w w' : World} {c m n n' : Nat} {most : Int} {L L' : List (Nat × K)} {kb : Nat} {a : Option Addr} {cap : Nat} {l l' : List K} {q : Nat} {dk dy : Int} {sv : ByteArray} {v' : Value}
theorem TW.lt (h : TW w0 w c m n most L kb a cap l) : kb < w.heap.size := (Array.getElem?_eq_some_iff.1 h.box).1
theorem TX.lt (h : TX w0 w c m n most L kb a cap l q dk dy sv) : q < w.heap.size := (Array.getElem?_eq_some_iff.1 h.deed).1
theorem TW.keep (h : TW w0 w c m n most L kb a cap l) (hb : Below w.heap.size w w') : TW w0 w' c m n most L kb a cap l :=
  ⟨h.cs.keep hb, (hb.block kb h.lt).trans h.box, h.xe.keep hb, h.ak, h.aa, fun b hbl => Nat.lt_of_lt_of_le (h.al b hbl) hb.size, h.lo⟩
theorem TX.keep (h : TX w0 w c m n most L kb a cap l q dk dy sv) (hb : Below w.heap.size w w') : TX w0 w' c m n most L kb a cap l q dk dy sv :=
  ⟨h.t.keep hb, (hb.block q h.lt).trans h.deed, h.aq⟩
/-- The program's cache changes. -/
theorem TX.step (h : TX w0 w c m n most L kb a cap l q dk dy sv) (hi : CI w' c m n' most L') (hf : Fr w c m L w' L') : TX w0 w' c m n' most L' kb a cap l q dk dy sv := by
  have hk := h.t.lt
  have hq := h.lt
  refine ⟨⟨h.t.cs.step hi hf, (hf.block kb hk h.t.ak.1 h.t.ak.2.1 h.t.ak.2.2).trans h.t.box, h.t.xe.keepBut (fun b hb hbl => ?_), ⟨h.t.ak.1, h.t.ak.2.1, fun e => ?_⟩, fun b hbl => ?_, fun b hbl => Nat.lt_of_lt_of_le (h.t.al b hbl) hf.size, h.t.lo⟩, (hf.block q hq h.aq.1 h.aq.2.1 h.aq.2.2.1).trans h.deed, ⟨h.aq.1, h.aq.2.1, fun e => ?_, h.aq.2.2.2⟩⟩
  · obtain ⟨a1, a2, a3, a4⟩ := h.t.aa b hbl
    exact hf.block b hb a1 a2 a3
  · rcases hf.new kb e with h' | h'
    · exact h.t.ak.2.2 h'
    · omega
  · obtain ⟨a1, a2, a3, a4⟩ := h.t.aa b hbl
    refine ⟨a1, a2, fun e => ?_, a4⟩
    rcases hf.new b e with h' | h'
    · exact a3 h'
    · have := h.t.al b hbl
      omega
  · rcases hf.new q e with h' | h'
    · exact h.aq.2.2.1 h'
    · omega
/-- A row that the document's call has left. -/
theorem XRes.slice {w1 w2 : World} (h : XRes w1 w2 a cap v' l l') : ∃ a' c', v' = .slice a' l'.length c' := by
  rcases h with ⟨rfl, rfl⟩ | h
  · exact ⟨a, cap, rfl⟩
  · obtain ⟨a', c', hv, _⟩ := h.at
    exact ⟨a', c', hv⟩
/-- The document's call has returned a row; it is laid into a new box, and then into the old one. -/
theorem TX.lay {w2 : World} {a' : Option Addr} {c' : Nat} (h : TX w0 w c m n most L kb a cap l q dk dy sv) (hb : Below w.heap.size w w2) (hx : XRes w w2 a cap (.slice a' l'.length c') l l') :
    (∀ W, W = w2.alloc (.cells #[.int .i64 most, .slice a' l'.length c'] 29) → (W.cell? ⟨kb, 0, none⟩ = some (.int .i64 most) ∧ W.cell? ⟨kb, 1, none⟩ = some (.slice a l.length cap)) ∧ (∀ j, W.frozen? ⟨kb, j, none⟩ = false) ∧ (W.cell? ⟨w2.heap.size, 0, none⟩ = some (.int .i64 most) ∧ W.cell? ⟨w2.heap.size, 1, none⟩ = some (.slice a' l'.length c')) ∧ TX w0 ((W.setCell ⟨kb, 0, none⟩ (.int .i64 most)).setCell ⟨kb, 1, none⟩ (.slice a' l'.length c')) c m n most L kb a' c' l' q dk dy sv) := by
  rintro W rfl
  have hkb := h.t.lt
  have hq := h.lt
  have hB := hb.alloc hb.size (.cells #[.int .i64 most, .slice a' l'.length c'] 29)
  have hS := hB.size
  have h3 := h.keep hB
  obtain ⟨⟨p0, p1⟩, pf⟩ := row2 h3.t.box
  have hlast := heap_alloc_last w2 (.cells #[.int .i64 most, .slice a' l'.length c'] 29)
  obtain ⟨⟨l0, l1⟩, _⟩ := row2 hlast
  refine ⟨⟨p0, p1⟩, pf, ⟨l0, l1⟩, ?_⟩
  obtain ⟨W, hW⟩ : ∃ W, w2.alloc (.cells #[.int .i64 most, .slice a' l'.length c'] 29) = W := ⟨_, rfl⟩
  rw [hW] at hB hS h3 ⊢
  have hWs : W.heap.size = w2.heap.size + 1 := by rw [← hW]; simp
  have kk : ∀ b, b ≠ kb → ((W.setCell ⟨kb, 0, none⟩ (.int .i64 most)).setCell ⟨kb, 1, none⟩ (.slice a' l'.length c')).heap[b]? = W.heap[b]? := fun b hb => (heap_setCell_other _ ⟨kb, 1, none⟩ b _ hb).trans (heap_setCell_other _ ⟨kb, 0, none⟩ b _ hb)
  have hss : ((W.setCell ⟨kb, 0, none⟩ (.int .i64 most)).setCell ⟨kb, 1, none⟩ (.slice a' l'.length c')).heap.size = W.heap.size := by simp
  have hxe : XE W a' c' l' ∧ (∀ b, blk a' b → b ≠ c ∧ b ≠ m ∧ b ∉ bs L ∧ b ≠ kb) ∧ ∀ b, blk a' b → b < W.heap.size := by
    rcases hx with ⟨hv, hl⟩ | ho
    · subst hl
      simp only [Value.slice.injEq, true_and] at hv
      obtain ⟨rfl, rfl⟩ := hv
      exact ⟨h3.t.xe, h3.t.aa, h3.t.al⟩
    · obtain ⟨a2, c2, hv, hx2, hbl⟩ := ho.at
      simp only [Value.slice.injEq, true_and] at hv
      obtain ⟨rfl, rfl⟩ := hv
      refine ⟨by rw [← hW]; exact hx2.keep (bel1 w2 _), fun b hb' => ?_, fun b hb' => by have := (hbl b hb').2.2; omega⟩
      have h1 := (hbl b hb').1
      have h4 := h.t.cs.ci.lt
      have h5 := h.t.cs.ci.mi.lt
      exact ⟨by omega, by omega, fun e => by have := h.t.cs.ci.lk.lt b e; omega, by omega⟩
  refine ⟨⟨⟨h3.t.cs.ci.keepBut (kk c h.t.ak.1.symm) (kk m h.t.ak.2.1.symm) (fun b hbl => kk b (ne_mem hbl h.t.ak.2.2)), (h3.t.cs.bel.setCell h.t.lo _).setCell h.t.lo _, h3.t.cs.c, h3.t.cs.m, h3.t.cs.l⟩, heap_setCell_same _ kb 1 _ _ _ (heap_setCell_same W kb 0 _ _ _ h3.t.box), hxe.1.keepBut (fun b _ hbl => kk b (hxe.2.1 b hbl).2.2.2), h.t.ak, hxe.2.1, fun b hbl => by rw [hss]; exact hxe.2.2 b hbl, h.t.lo⟩, (kk q h.aq.2.2.2).trans h3.deed, h.aq⟩
end
end Go.Proofs.Ytpfmdchmgaaakaa
