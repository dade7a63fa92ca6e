/-
  A bounded row, what went in, and what came out, side by side.
-/
import Derived.Test.YtlknknacjpnmeaaG
import Derived.Test.YtlknknacjpnmeaaP
import Derived.Laws.AppendOwnNone
namespace Go.Proofs.Ytlknknacjpnmeaa
open Go.RowKit
set_option linter.unusedVariables false

/-- A bounded row, what went in (x), and what came out (y), each in memory of its own. -/
structure OL (w wr : World) (b : Nat) (v : Value) (mo : Int) (P : List ByteArray) (x : Value) (In : List ByteArray) (y : Value) (Out : List ByteArray) : Prop where
  t : TS w wr b v mo P
  oi : OwnT wr w.heap.size x In
  oo : OwnT wr w.heap.size y Out
  xb : x.ownBlock ≠ some b
  yb : y.ownBlock ≠ some b
  xv : ∀ k, v.ownBlock = some k → x.ownBlock ≠ some k
  yv : ∀ k, v.ownBlock = some k → y.ownBlock ≠ some k
  xy : ∀ k, x.ownBlock = some k → y.ownBlock ≠ some k
theorem OL.ring {w wr w' : World} {b : Nat} {v v' : Value} {mo : Int} {P P' : List ByteArray} {x y : Value} {In Out : List ByteArray} (h : OL w wr b v mo P x In y Out) (ht : TS w w' b v' mo P') (hc : Ch wr b v w' v') : OL w w' b v' mo P' x In y Out := by
  refine ⟨ht, h.oi.keepBut fun k hk e => hc.block k hk (fun e' => h.xb (by rw [← e']; exact e)) (fun e' => h.xv k e' e), h.oo.keepBut fun k hk e => hc.block k hk (fun e' => h.yb (by rw [← e']; exact e)) (fun e' => h.yv k e' e), h.xb, h.yb, fun k e e' => ?_, fun k e e' => ?_, h.xy⟩
  · rcases hc.n k e with h' | h'
    · exact h.xv k h' e'
    · have := (h.oi.lt e').2; omega
  · rcases hc.n k e with h' | h'
    · exact h.yv k h' e'
    · have := (h.oo.lt e').2; omega
theorem OL.keep {w wr w' : World} {b : Nat} {v : Value} {mo : Int} {P : List ByteArray} {x y : Value} {In Out : List ByteArray} (h : OL w wr b v mo P x In y Out) (hb : Below wr.heap.size wr w') : OL w w' b v mo P x In y Out := h.ring (h.t.keep hb) (Ch.ofBelow hb)
theorem OL.swap {w wr : World} {b : Nat} {v : Value} {mo : Int} {P : List ByteArray} {x y : Value} {In Out : List ByteArray} (h : OL w wr b v mo P x In y Out) : OL w wr b v mo P y Out x In :=
  ⟨h.t, h.oo, h.oi, h.yb, h.xb, h.yv, h.xv, fun k e e' => h.xy k e' e⟩
/-- A row of one's own has grown. -/
theorem OL.app {w wr w3 : World} {b : Nat} {v : Value} {mo : Int} {P : List ByteArray} {x x' y : Value} {In In' Out : List ByteArray} (h : OL w wr b v mo P x In y Out) (ho : OwnT w3 w.heap.size x' In') (hr : Rw wr x w3 x') : OL w w3 b v mo P x' In' y Out := by
  have hk : ∀ k, k < wr.heap.size → x.ownBlock ≠ some k → w3.heap[k]? = wr.heap[k]? := fun k hk hx => hr.g.block k hk (fun e => hx e.symm)
  have hB : Below w.heap.size wr w3 := hr.below (fun k e => (h.oi.lt e).1) h.t.bel.size
  refine ⟨⟨h.t.x.keepBut fun k hkk e => hk k hkk (fun e' => ?_), h.t.bel.trans hB, h.t.b⟩, ho, h.oo.keepBut fun k hkk e => hk k hkk (fun e' => h.xy k e' e), fun e => ?_, h.yb, fun k e e' => ?_, h.yv, fun k e e' => ?_⟩
  · rcases e with rfl | e
    · exact h.xb e'
    · exact h.xv k e e'
  · rcases hr.n b e with h' | h'
    · exact h.xb h'
    · have := h.t.x.lt; omega
  · rcases hr.n k e' with h' | h'
    · exact h.xv k e h'
    · have := (h.t.x.low k e).2; omega
  · rcases hr.n k e with h' | h'
    · exact h.xy k h' e'
    · have := (h.oo.lt e').2; omega
/-- One text more, laid into a block of its own first. -/
theorem OL.app1 {w wr w3 : World} {b : Nat} {v : Value} {mo : Int} {P : List ByteArray} {x y : Value} {In Out : List ByteArray} {n g cp : Nat} {s : ByteArray} {o : Obj} (h : OL w wr b v mo P x In y Out) (hn : In.length = n)
    (ho : w3.ownsRow w.heap.size 9 1 (.slice (some ⟨g, 0, none⟩) (n + 1) cp) (n + 1) (SC In ++ [.string s])) (hg : (wr.alloc o).grownBy w3 x.ownBlock) (hat : x.ownBlock = some g ∨ g = (wr.alloc o).heap.size) :
    OL w w3 b v mo P (.slice (some ⟨g, 0, none⟩) (n + 1) cp) (In ++ [s]) y Out := by
  subst hn
  have h1 := h.keep (bel1 wr o)
  refine h1.app ?_ (rw_lies hg hat rfl)
  unfold OwnT
  rw [SC_app, List.length_append]
  exact ho
theorem atT_any {w : World} {ad : Addr} {s : List ByteArray} (h : AtT w (some ad) s) : ∀ j u, (SC s)[j]? = some u → w.cell? (ad.add j) = some u := by
  intro j u hu
  have hj : j < s.length := by
    have := (List.getElem?_eq_some_iff.1 hu).1
    rwa [SC_len] at this
  obtain ⟨b', off', e, _⟩ := h j hj
  cases e
  exact atT_cells h j u hu
theorem atT_none {w : World} {s : List ByteArray} (h : AtT w none s) : s = [] := by
  cases s with
  | nil => rfl
  | cons x r => obtain ⟨_, _, e, _⟩ := h 0 (by simp); cases e
theorem take_one (s : ByteArray) (P : List ByteArray) : M.peek (s :: P) 0 = s ∧ M.has (s :: P) 0 = true ∧ (s :: P).drop (M.cut (s :: P) 1) = P := by
  have h : M.has (s :: P) 0 = true := by simp [M.has]
  refine ⟨?_, h, ?_⟩
  · unfold M.peek; rw [h]; rfl
  · rw [show M.cut (s :: P) 1 = 1 by simp [M.cut]]; rfl
theorem take_none : M.peek [] 0 = ByteArray.empty ∧ M.has [] 0 = false ∧ ([] : List ByteArray).drop (M.cut [] 1) = [] := aw5
end Go.Proofs.Ytlknknacjpnmeaa
