/-
  Both files behind a deed.
-/
import Derived.Test.YtajgjkkggppbiaaFA
namespace Go.Proofs.Ytajgjkkggppbiaa
open Go.RowKit
set_option linter.unusedVariables false
open M (E RX)

theorem lk_good {L : List (Int × Int)} {P : List E} (h : RX L P) (hg : M.G P) (t : Nat → Bool) : ∀ k, k ≤ L.length → M.G (M.lk L t k) := fun k hk => (M.lk_spec h hg t k hk).1
theorem look_same {L : List (Int × Int)} {P Q : List E} {c n : Int} (h : RX L P) (hg : M.G P) (hQ : M.G Q) (hr : ∀ i, M.rep Q i = if wlo c 16384 ≤ i ∧ i < whi c n 16384 then M.rep P i else none) : M.lk L (fun j => inn j c n) L.length = Q := by
  refine M.lk_eq h hg _ hQ fun i => ?_
  rw [hr]
  by_cases hi : 0 ≤ i ∧ i < 16384
  · have hs := within_spec i c n 16384 hi.1 hi.2
    rw [show ((i.toNat : Nat) : Int) = i by omega]
    by_cases hq : inn i c n = true
    · rw [if_pos (hs.1 hq), if_pos ⟨hi.1, hi.2, hq⟩]
    · rw [if_neg (fun hh => hq (hs.2 hh)), if_neg (fun hh => hq hh.2.2)]
  · have h2 : (if 0 ≤ i ∧ i < 16384 ∧ inn (i.toNat : Int) c n = true then M.rep P i else none) = none := by rw [if_neg (fun hh => hi ⟨hh.1, hh.2.1⟩)]
    rw [h2]
    split
    · exact M.rep_out hg i (by omega)
    · rfl
/-- The law's own box of the document's file is set: the two files do not see it. -/
structure TwoB (W wr : World) (b kb : Nat) (v : Value) (P : List E) (a : Option Addr) (cap : Nat) (L : List (Int × Int)) : Prop where
  t : Two W wr b v P a cap L
  box : wr.heap[kb]? = some (.cells #[.slice a L.length cap] 28 (0, 0))
  rx : RX L P
  nb : kb ≠ b ∧ v.ownBlock ≠ some kb ∧ ¬ blk a kb ∧ W.heap.size ≤ kb
theorem TwoB.lt {W wr : World} {b kb : Nat} {v : Value} {P : List E} {a : Option Addr} {cap : Nat} {L : List (Int × Int)} (h : TwoB W wr b kb v P a cap L) : kb < wr.heap.size := (Array.getElem?_eq_some_iff.1 h.box).1
theorem TwoB.step {W wr wr' : World} {b kb : Nat} {v : Value} {P : List E} {a : Option Addr} {cap : Nat} {L : List (Int × Int)} (h : TwoB W wr b kb v P a cap L) (hb : Below wr.heap.size wr wr') : TwoB W wr' b kb v P a cap L :=
  ⟨h.t.step hb, (hb.block kb h.lt).trans h.box, h.rx, h.nb⟩
/-- Behind a deed: the document's new file is laid into the box. -/
theorem TwoB.next {W wr w5 w6 : World} {b kb : Nat} {v v' : Value} {P P' : List E} {a a' : Option Addr} {cap cap' : Nat} {L L' : List (Int × Int)} (h : TwoB W wr b kb v P a cap L) (h5 : Below wr.heap.size wr w5) (T6 : Two W w6 b v' P' a' cap' L') (hc : Ch w5 b v w6 v') (ha : ∀ k, blk a' k → w5.heap.size ≤ k ∨ blk a k) (hrx : RX L' P') :
    (∀ k, wr.heap.size ≤ k → k < w5.heap.size → Two W (w6.setCell ⟨k, 0, none⟩ (.slice a' L'.length cap')) b v' P' a' cap' L') ∧ (∀ w7, Two W w7 b v' P' a' cap' L' → w7.heap[kb]? = w6.heap[kb]? → TwoB W (w7.setCell ⟨kb, 0, none⟩ (.slice a' L'.length cap')) b kb v' P' a' cap' L') ∧ w6.heap[kb]? = some (.cells #[.slice a L.length cap] 28 (0, 0)) := by
  have hs5 := h5.size
  have hkb := h.lt
  have hbox : w6.heap[kb]? = some (.cells #[.slice a L.length cap] 28 (0, 0)) := (hc.block kb (by omega) h.nb.1 h.nb.2.1).trans ((h5.block kb hkb).trans h.box)
  have hvk : ∀ k, (k = kb ∨ (wr.heap.size ≤ k ∧ k < w5.heap.size)) → v'.ownBlock ≠ some k := by
    intro k hk e
    rcases hc.n k e with h' | h'
    · rcases hk with rfl | hk
      · exact h.nb.2.1 h'
      · have := (h.t.x.own.lt k h').2; omega
    · rcases hk with rfl | hk
      · omega
      · omega
  have hak : ∀ k, (k = kb ∨ (wr.heap.size ≤ k ∧ k < w5.heap.size)) → ¬ blk a' k := by
    intro k hk e
    rcases ha k e with h' | h'
    · rcases hk with rfl | hk <;> omega
    · rcases hk with rfl | hk
      · exact h.nb.2.2.1 h'
      · have := (h.t.ap k h').2.2; omega
  have hb := h.t.x.lt
  have hWr := h.t.bel.size
  refine ⟨fun k h1 h2 => T6.set _ (by omega) (by omega) (hvk k (.inr ⟨h1, h2⟩)) (hak k (.inr ⟨h1, h2⟩)), fun w7 T7 h7 => ?_, hbox⟩
  refine ⟨T7.set _ h.nb.2.2.2 h.nb.1 (hvk kb (.inl rfl)) (hak kb (.inl rfl)), heap_setCell_same w7 kb 0 _ _ _ (h7.trans hbox), hrx, h.nb.1, hvk kb (.inl rfl), hak kb (.inl rfl), h.nb.2.2.2⟩
end Go.Proofs.Ytajgjkkggppbiaa
