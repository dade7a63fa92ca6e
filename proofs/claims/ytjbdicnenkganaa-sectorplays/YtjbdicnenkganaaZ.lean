/-
  Both devices side by side: the program's, and the document's.
-/
import Derived.Test.YtjbdicnenkganaaL
import Derived.Test.YtjbdicnenkganaaP
import Derived.Test.YtjbdicnenkganaaN
namespace Go.Proofs.Ytjbdicnenkganaa
open Go.RowKit
open M (DD RR)
set_option linter.unusedVariables false

/-- The program's device, and the document's in a box at block kb. -/
structure TW (w0 w : World) (b : Nat) (F : Nat → Prop) (n : Nat) (P : List M.Pl) (lost : Bool) (kb : Nat) (h : Hd) (D : DD) : Prop where
  ds : DS w0 w b F n P lost
  box : w.heap[kb]? = some (.cells (h.vals D) 30 (0, 0))
  xd : XD w h D
  ak : ¬ F kb
  aa : ∀ k, h.blk k → ¬ F k ∧ k ≠ kb
  lo : w0.heap.size ≤ kb
/-- .. with a deed that stands in a block of its own. -/
structure TX (w0 w : World) (b : Nat) (F : Nat → Prop) (n : Nat) (P : List M.Pl) (lost : Bool) (kb : Nat) (h : Hd) (D : DD) (q : Nat) (d : Dd) : Prop extends TW w0 w b F n P lost kb h D where
  deed : w.heap[q]? = some (.cells d.cs.toArray 34 (0, 0))
  aq : ¬ F q ∧ q ≠ kb
section
variable {w0 w w' : World} {b : Nat} {F F' : Nat → Prop} {n : Nat} {P P' : List M.Pl} {lost lost' : Bool} {kb : Nat} {h h' : Hd} {D D' : DD} {q : Nat} {d : Dd}
theorem TW.lt (x : TW w0 w b F n P lost kb h D) : kb < w.heap.size := (Array.getElem?_eq_some_iff.1 x.box).1
theorem TX.ltq (x : TX w0 w b F n P lost kb h D q d) : q < w.heap.size := (Array.getElem?_eq_some_iff.1 x.deed).1
/-- The program's device changes. -/
theorem TW.step (x : TW w0 w b F n P lost kb h D) (ht : DS w0 w' b F' n P' lost') (hc : Ch w F w' F') : TW w0 w' b F' n P' lost' kb h D := by
  refine ⟨ht, (hc.block kb x.lt x.ak).trans x.box, x.xd.keepBut (fun k hk hb => hc.block k hk (x.aa k hb).1) hc.size, fun e => ?_, fun k hb => ⟨fun e => ?_, (x.aa k hb).2⟩, x.lo⟩
  · rcases hc.n _ e with h' | h'
    · exact x.ak h'
    · have := x.lt; omega
  · rcases hc.n _ e with h' | h'
    · exact (x.aa k hb).1 h'
    · have := x.xd.lt k hb; omega
theorem TX.step (x : TX w0 w b F n P lost kb h D q d) (ht : DS w0 w' b F' n P' lost') (hc : Ch w F w' F') : TX w0 w' b F' n P' lost' kb h D q d := by
  refine ⟨x.toTW.step ht hc, (hc.block q x.ltq x.aq.1).trans x.deed, fun e => ?_, x.aq.2⟩
  rcases hc.n _ e with h' | h'
  · exact x.aq.1 h'
  · have := x.ltq; omega
theorem TW.keep (x : TW w0 w b F n P lost kb h D) (hb : Below w.heap.size w w') : TW w0 w' b F n P lost kb h D := x.step (x.ds.keep hb) (Ch.ofBelow hb)
theorem TX.keep (x : TX w0 w b F n P lost kb h D q d) (hb : Below w.heap.size w w') : TX w0 w' b F n P lost kb h D q d := x.step (x.ds.keep hb) (Ch.ofBelow hb)
/-- A deed beside both. -/
theorem TW.deed (x : TW w0 w b F n P lost kb h D) (d : Dd) : TX w0 (w.alloc (.cells d.cs.toArray 34)) b F n P lost kb h D w.heap.size d := by
  refine ⟨x.keep (bel1 w _), heap_alloc_last w _, fun e => ?_, ?_⟩
  · have := (x.ds.own _ e).2; omega
  · have := x.lt; omega
/-- The document's call has returned; what it returned is laid into the box. -/
theorem TW.lay (x : TW w0 w b F n P lost kb h D) {w2 : World} (hb : Below w.heap.size w w2) (hx : XD w2 h' D') (hbl : ∀ k, h'.blk k → h.blk k ∨ w.heap.size ≤ k) :
    (w2.heap[kb]? = some (.cells (h.vals D) 30 (0, 0))) ∧ TW w0 (st4 w2 kb (.slice h'.aN D'.now.length h'.cN) (.slice h'.aS D'.sure.length h'.cS) (.slice h'.aL D'.loo.length h'.cL) (.bool D'.lost)) b F n P lost kb h' D' := by
  have x2 := x.keep hb
  have hr : w2.heap[kb]? = some (.cells #[.slice h.aN D.now.length h.cN, .slice h.aS D.sure.length h.cS, .slice h.aL D.loo.length h.cL, .bool D.lost] 30 (0, 0)) := x2.box
  obtain ⟨p1, p2, p3⟩ := put4 (v0 := .slice h'.aN D'.now.length h'.cN) (v1 := .slice h'.aS D'.sure.length h'.cS) (v2 := .slice h'.aL D'.loo.length h'.cL) (v3 := .bool D'.lost) hr
  have hk' : ∀ k, h'.blk k → ¬ F k ∧ k ≠ kb := fun k hk => by
    rcases hbl k hk with h1 | h1
    · exact x.aa k h1
    · exact ⟨fun e => by have := (x.ds.own k e).2; omega, by have := x.lt; omega⟩
  refine ⟨x2.box, ⟨x2.ds.keepBut (fun k _ hF => p2 k (fun e => x.ak (by rw [← e]; exact hF))) (below4 x2.ds.bel x.lo), p1, hx.keepBut (fun k _ hb' => p2 k (hk' k hb').2) (by rw [p3]; exact Nat.le_refl _), x.ak, hk', x.lo⟩⟩
theorem TX.lay (x : TX w0 w b F n P lost kb h D q d) {w2 : World} (hb : Below w.heap.size w w2) (hx : XD w2 h' D') (hbl : ∀ k, h'.blk k → h.blk k ∨ w.heap.size ≤ k) :
    (w2.heap[kb]? = some (.cells (h.vals D) 30 (0, 0))) ∧ TX w0 (st4 w2 kb (.slice h'.aN D'.now.length h'.cN) (.slice h'.aS D'.sure.length h'.cS) (.slice h'.aL D'.loo.length h'.cL) (.bool D'.lost)) b F n P lost kb h' D' q d := by
  obtain ⟨p1, p2⟩ := x.toTW.lay hb hx hbl
  have hr : w2.heap[kb]? = some (.cells #[.slice h.aN D.now.length h.cN, .slice h.aS D.sure.length h.cS, .slice h.aL D.loo.length h.cL, .bool D.lost] 30 (0, 0)) := p1
  exact ⟨p1, ⟨p2, ((put4 hr).2.1 q x.aq.2).trans ((hb.block q x.ltq).trans x.deed), x.aq⟩⟩
theorem row5 {w : World} {k : Nat} {v0 v1 v2 v3 v4 : Value} {t : TypeId} (h : w.heap[k]? = some (.cells #[v0, v1, v2, v3, v4] t (0, 0))) :
    w.cell? ⟨k, 0, none⟩ = some v0 ∧ w.cell? ⟨k, 1, none⟩ = some v1 ∧ w.cell? ⟨k, 2, none⟩ = some v2 ∧ w.cell? ⟨k, 3, none⟩ = some v3 ∧ w.cell? ⟨k, 4, none⟩ = some v4 :=
  ⟨by rw [cell_of_row w k 0 _ _ _ h]; rfl, by rw [cell_of_row w k 1 _ _ _ h]; rfl, by rw [cell_of_row w k 2 _ _ _ h]; rfl, by rw [cell_of_row w k 3 _ _ _ h]; rfl, by rw [cell_of_row w k 4 _ _ _ h]; rfl⟩
theorem TX.cells (x : TX w0 w b F n P lost kb h D q d) : w.cell? ⟨q, 0, none⟩ = some (.int .i64 d.k) ∧ w.cell? ⟨q, 1, none⟩ = some (.int .i64 d.at') ∧ w.cell? ⟨q, 2, none⟩ = some (.int .i64 d.n) ∧ w.cell? ⟨q, 3, none⟩ = some (.string d.txt) ∧ w.cell? ⟨q, 4, none⟩ = some (.int .u64 (d.keep : Int)) := row5 x.deed
theorem TW.cells (x : TW w0 w b F n P lost kb h D) : (w.cell? ⟨kb, 0, none⟩ = some (.slice h.aN D.now.length h.cN) ∧ w.cell? ⟨kb, 1, none⟩ = some (.slice h.aS D.sure.length h.cS) ∧ w.cell? ⟨kb, 2, none⟩ = some (.slice h.aL D.loo.length h.cL) ∧ w.cell? ⟨kb, 3, none⟩ = some (.bool D.lost)) ∧ ∀ j, w.frozen? ⟨kb, j, none⟩ = false := row4 x.box
end
end Go.Proofs.Ytjbdicnenkganaa
