/-
  The program's calls beside the document's.
-/
import Derived.Test.YtjbcchipbdkplaaQC
import Derived.Test.YtjbcchipbdkplaaQE
import Derived.Deep.CutRange
namespace Go.Proofs.Ytjbcchipbdkplaa
open Go.RowKit Go.Maps
set_option linter.unusedVariables false
open Rp (C fup)

/-- Rows that lie apart from some blocks. -/
def DN (F : Nat → Prop) (dv : Nat → Value) : Prop := ∀ c a n cap, dv c = .slice a n cap → ∀ q, blk a q → ¬ F q
theorem DN.none (F : Nat → Prop) : DN F nodv := fun c a n cap h q hq => by
  simp only [nodv, Value.slice.injEq] at h
  obtain ⟨rfl, _⟩ := h
  obtain ⟨_, _, e⟩ := hq
  cases e
theorem DN.mono {F G : Nat → Prop} {dv : Nat → Value} (h : DN F dv) (hg : ∀ q, G q → F q) : DN G dv := fun c a n cap e q hq hG => h c a n cap e q hq (hg q hG)
theorem DN.new {F : Nat → Prop} {w : World} {dv dv' : Nat → Value} (h : DN F dv) (hn : New w dv dv') (hF : ∀ q, F q → q < w.heap.size) : DN F dv' := fun c a n cap e q hq hf => by
  rcases hn c with h' | ⟨a', n', cap', e', hw⟩
  · exact h c a n cap (by rw [← h', e]) q hq hf
  · rw [e'] at e
    simp only [Value.slice.injEq] at e
    obtain ⟨rfl, _⟩ := e
    have := hw q hq
    have := hF q hf
    omega
theorem DR.lt {w : World} {T : Int → List C} {dv : Nat → Value} (h : DR w T dv) {c : Nat} {a : Option Addr} {n cap : Nat} (e : dv c = .slice a n cap) {q : Nat} (hq : blk a q) : q < w.heap.size := by
  by_cases h0 : T c = []
  · rw [h.non c h0] at e
    simp only [Value.slice.injEq] at e
    obtain ⟨rfl, _⟩ := e
    obtain ⟨_, _, e⟩ := hq
    cases e
  · obtain ⟨a', cap', e', hx⟩ := h.row c
    rw [e'] at e
    simp only [Value.slice.injEq] at e
    obtain ⟨rfl, _⟩ := e
    obtain ⟨b, off, rfl, c0, _⟩ := hx.at'.getC 0 (List.length_pos_iff.2 h0)
    obtain ⟨_, _, e⟩ := hq
    cases e
    exact World.block_lt_of_cell? w _ c0
theorem DR.fr {w w' : World} {F G : Nat → Prop} {T : Int → List C} {dv : Nat → Value} (h : DR w T dv) (hn : DN F dv) (hF : Fr w F w' G) : DR w' T dv ∧ DN G dv := by
  refine ⟨⟨fun c => ?_, h.non⟩, fun c a n cap e q hq hg => ?_⟩
  · obtain ⟨a, cap, e, hx⟩ := h.row c
    exact ⟨a, cap, e, hx.keepBut (fun k hk hb => hF.block k hk (hn c _ _ _ e k hb))⟩
  · rcases hF.n q hg with h' | h'
    · exact hn c a n cap e q hq h'
    · have := h.lt e hq
      omega
theorem fr_setRow (w : World) (g : Nat) (cs : Array Value) : Fr w (fun q => q = g) (w.setRow g cs) (fun q => q = g) := ⟨rfl, rfl, rfl, by simp [World.setRow], fun k hk hne => setRow_other w g k cs hne, fun k h => .inl h⟩
/-- The program's calls (at b), and the document's (in block B) beside. -/
structure PS (w0 w : World) (F : Nat → Prop) (b n room : Nat) (T : Int → List C) (B : Nat) (dv : Nat → Value) : Prop where
  ks : KS w0 w F b n room T
  dr : DR w T dv
  dn : DN (fun q => F q ∨ q = B) dv
  row : w.heap[B]? = some (.cells (DA room dv) 30 (0, 0))
  nf : ¬ F B
  lo : w0.heap.size ≤ B
section
variable {w0 w w' : World} {F G : Nat → Prop} {b n room B : Nat} {T : Int → List C} {dv : Nat → Value}
theorem PS.keep (h : PS w0 w F b n room T B dv) (hb : Below w.heap.size w w') : PS w0 w' F b n room T B dv :=
  ⟨h.ks.keep hb, h.dr.keep hb, h.dn, (hb.block B (Array.getElem?_eq_some_iff.1 h.row).1).trans h.row, h.nf, h.lo⟩
theorem PS.lt (h : PS w0 w F b n room T B dv) : B < w.heap.size := (Array.getElem?_eq_some_iff.1 h.row).1
theorem PS.ld (h : PS w0 w F b n room T B dv) : (ld30 ⟨B, 0, none⟩).run Try.prog w = .ok (DA room dv) w := load30_row w B room dv h.row
theorem PS.inner (h : PS w0 w F b n room T B dv) (q : Nat) (hq : F q ∨ q = B) : q < w.heap.size := by
  rcases hq with h' | rfl
  · exact (h.ks.mine q h').2
  · exact h.lt
/-- What the document's call leaves, stored: by way of a box of its own. -/
theorem PS.doc (h : PS w0 w F b n room T B dv) {w2 : World} {dv' : Nat → Value} {T' : Int → List C} (hdr : DR w2 T' dv') (hb : Below w.heap.size w w2) (hn : New w dv dv') :
    (st30 ⟨w2.heap.size, 0, none⟩ (DA room dv')).run Try.prog (w2.alloc (.cells (DA 0 nodv) 30)) = .ok () ((w2.alloc (.cells (DA 0 nodv) 30)).setRow w2.heap.size (DA room dv')) ∧
    (ld30 ⟨w2.heap.size, 0, none⟩).run Try.prog ((w2.alloc (.cells (DA 0 nodv) 30)).setRow w2.heap.size (DA room dv')) = .ok (DA room dv') ((w2.alloc (.cells (DA 0 nodv) 30)).setRow w2.heap.size (DA room dv')) ∧
    (st30 ⟨B, 0, none⟩ (DA room dv')).run Try.prog ((w2.alloc (.cells (DA 0 nodv) 30)).setRow w2.heap.size (DA room dv')) = .ok () (((w2.alloc (.cells (DA 0 nodv) 30)).setRow w2.heap.size (DA room dv')).setRow B (DA room dv')) ∧
    ∃ W, Hid (((w2.alloc (.cells (DA 0 nodv) 30)).setRow w2.heap.size (DA room dv')).setRow B (DA room dv') = W) ∧ KS w0 W F b n room T ∧ DR W T' dv' ∧ DN (fun q => F q ∨ q = B) dv' ∧ W.heap[B]? = some (.cells (DA room dv') 30 (0, 0)) ∧ ∀ q, q < w2.heap.size → q ≠ B → W.heap[q]? = w2.heap[q]? := by
  have h2 := h.keep hb
  have hbx : (w2.alloc (.cells (DA 0 nodv) 30)).heap[w2.heap.size]? = some (.cells (DA 0 nodv) 30 (0, 0)) := heap_alloc_last w2 _
  have hB : Below w2.heap.size w2 ((w2.alloc (.cells (DA 0 nodv) 30)).setRow w2.heap.size (DA room dv')) := below_setRow (bel1 w2 _) (Nat.le_refl _) _
  have h3 := h2.keep hB
  have hr := setRow_heap _ _ _ (DA room dv') _ _ hbx
  have hdn : DN (fun q => F q ∨ q = B) dv' := h.dn.new hn h.inner
  have hfr := fr_setRow ((w2.alloc (.cells (DA 0 nodv) 30)).setRow w2.heap.size (DA room dv')) B (DA room dv')
  obtain ⟨d1, d2⟩ := (hdr.keep hB).fr (hdn.mono (fun q hq => .inr hq)) hfr
  obtain ⟨k1, k2⟩ := h3.ks.step hfr (fun q hq e => h.nf (by rw [← e]; exact hq)) (fun q e => by rw [e]; exact h.lo)
  refine ⟨store30_row _ _ _ _ _ _ hdr.sl hbx, load30_row _ _ _ _ hr, store30_row _ _ _ _ _ _ hdr.sl h3.row, _, Hid_of rfl, k1, d1, hdn, setRow_heap _ _ _ _ _ _ h3.row, fun q hq hne => ?_⟩
  rw [hfr.block q (by have := hB.size; omega) hne, hB.block q hq]
/-- .. and the program's call behind it. -/
theorem PS.prog {n' : Nat} {T' : Int → List C} (ha : KS w0 w F b n room T) (hd : DR w T' dv) (hn : DN (fun q => F q ∨ q = B) dv) (hr : w.heap[B]? = some (.cells (DA room dv) 30 (0, 0))) (hnf : ¬ F B) (hlo : w0.heap.size ≤ B) (hk : KS w0 w' G b n' room T') (hF : Fr w F w' G) : PS w0 w' G b n' room T' B dv := by
  obtain ⟨d1, d2⟩ := hd.fr (hn.mono (fun q hq => .inl hq)) hF
  have hl := (Array.getElem?_eq_some_iff.1 hr).1
  have hg : ¬ G B := fun e => by
    rcases hF.n B e with h' | h'
    · exact hnf h'
    · omega
  refine ⟨hk, d1, fun c a m cap e q hq hx => ?_, (hF.block B hl hnf).trans hr, hg, hlo⟩
  rcases hx with h' | h'
  · exact d2 c a m cap e q hq h'
  · exact hn c a m cap e q hq (.inr h')
end
end Go.Proofs.Ytjbcchipbdkplaa
