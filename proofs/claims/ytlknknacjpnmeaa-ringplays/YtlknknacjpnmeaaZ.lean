/-
  Both bounded rows side by side: the program's, and the document's.
-/
import Derived.Test.YtlknknacjpnmeaaG
import Derived.Test.YtlknknacjpnmeaaP
import Derived.Test.YtlknknacjpnmeaaS
namespace Go.Proofs.Ytlknknacjpnmeaa
open Go.RowKit
set_option linter.unusedVariables false

/-- The program's row, and the document's in a box at block kb. -/
structure TW (w0 w : World) (b : Nat) (v : Value) (mo : Int) (P : List ByteArray) (kb : Nat) (a : Option Addr) (cap : Nat) : Prop where
  ts : TS w0 w b v mo P
  box : w.heap[kb]? = some (.cells #[.int .i64 mo, .slice a P.length cap] 29 (0, 0))
  xt : XT w a cap P
  ak : kb ≠ b ∧ v.ownBlock ≠ some kb
  aa : ∀ j, blk a j → j ≠ b ∧ v.ownBlock ≠ some j ∧ j ≠ kb ∧ j < w.heap.size
  lo : w0.heap.size ≤ kb
/-- .. with a deed that stands in a block of its own; the document's row may be another one (D) while the program's is P. -/
structure TX (w0 w : World) (b : Nat) (v : Value) (mo : Int) (P D : List ByteArray) (kb : Nat) (a : Option Addr) (cap : Nat) (q : Nat) (dk dn : Int) (s : ByteArray) : Prop where
  ts : TS w0 w b v mo P
  box : w.heap[kb]? = some (.cells #[.int .i64 mo, .slice a D.length cap] 29 (0, 0))
  xt : XT w a cap D
  ak : kb ≠ b ∧ v.ownBlock ≠ some kb
  aa : ∀ j, blk a j → j ≠ b ∧ v.ownBlock ≠ some j ∧ j ≠ kb ∧ j < w.heap.size
  lo : w0.heap.size ≤ kb
  deed : w.heap[q]? = some (.cells #[.int .i64 dk, .int .i64 dn, .string s] 32 (0, 0))
  aq : q ≠ b ∧ v.ownBlock ≠ some q ∧ q ≠ kb
section
variable {w0 w w' : World} {b : Nat} {v v' : Value} {mo : Int} {P P' D D' : List ByteArray} {kb : Nat} {a : Option Addr} {cap q : Nat} {dk dn : Int} {s : ByteArray}
theorem TW.lt (h : TW w0 w b v mo P kb a cap) : kb < w.heap.size := (Array.getElem?_eq_some_iff.1 h.box).1
theorem TX.lt (h : TX w0 w b v mo P D kb a cap q dk dn s) : kb < w.heap.size := (Array.getElem?_eq_some_iff.1 h.box).1
theorem TX.ltq (h : TX w0 w b v mo P D kb a cap q dk dn s) : q < w.heap.size := (Array.getElem?_eq_some_iff.1 h.deed).1
theorem TX.tw (h : TX w0 w b v mo P P kb a cap q dk dn s) : TW w0 w b v mo P kb a cap := ⟨h.ts, h.box, h.xt, h.ak, h.aa, h.lo⟩
/-- The program's row changes. -/
theorem TX.step (h : TX w0 w b v mo P D kb a cap q dk dn s) (ht : TS w0 w' b v' mo P') (hc : Ch w b v w' v') : TX w0 w' b v' mo P' D kb a cap q dk dn s := by
  have hk := h.lt
  have hq := h.ltq
  refine ⟨ht, (hc.block kb hk h.ak.1 h.ak.2).trans h.box, h.xt.keepBut (fun j hj hb => hc.block j hj (h.aa j hb).1 (h.aa j hb).2.1), ⟨h.ak.1, fun e => ?_⟩, fun j hb => ⟨(h.aa j hb).1, fun e => ?_, (h.aa j hb).2.2.1, Nat.lt_of_lt_of_le (h.aa j hb).2.2.2 hc.size⟩, h.lo, (hc.block q hq h.aq.1 h.aq.2.1).trans h.deed, h.aq.1, fun e => ?_, h.aq.2.2⟩
  · rcases hc.n _ e with h' | h'
    · exact h.ak.2 h'
    · omega
  · rcases hc.n _ e with h' | h'
    · exact (h.aa j hb).2.1 h'
    · have := (h.aa j hb).2.2.2; omega
  · rcases hc.n _ e with h' | h'
    · exact h.aq.2.1 h'
    · omega
theorem TX.keep (h : TX w0 w b v mo P D kb a cap q dk dn s) (hb : Below w.heap.size w w') : TX w0 w' b v mo P D kb a cap q dk dn s := h.step (h.ts.keep hb) (Ch.ofBelow hb)
/-- A deed beside both. -/
theorem TW.deed (h : TW w0 w b v mo P kb a cap) (dk dn : Int) (s : ByteArray) : TX w0 (w.alloc (.cells #[.int .i64 dk, .int .i64 dn, .string s] 32)) b v mo P P kb a cap w.heap.size dk dn s := by
  have hb := bel1 w (.cells #[.int .i64 dk, .int .i64 dn, .string s] 32)
  refine ⟨h.ts.keep hb, (hb.block kb h.lt).trans h.box, h.xt.keep hb, h.ak, fun j hj => ⟨(h.aa j hj).1, (h.aa j hj).2.1, (h.aa j hj).2.2.1, Nat.lt_of_lt_of_le (h.aa j hj).2.2.2 hb.size⟩, h.lo, heap_alloc_last w _, ?_, fun e => ?_, ?_⟩
  · have := h.ts.x.lt; omega
  · have := (h.ts.x.low _ e).2; omega
  · have := h.lt; omega
theorem XRes.slice {w1 w2 : World} {v1 : Value} (h : XRes w1 w2 a cap v1 D D') : ∃ a' c', v1 = .slice a' D'.length c' := by
  rcases h with ⟨rfl, rfl⟩ | h
  · exact ⟨a, cap, rfl⟩
  · obtain ⟨a', c', hv, _⟩ := h.at
    exact ⟨a', c', hv⟩
/-- The document's call has returned a row; it is laid into a new box, and then into the old one. -/
theorem TX.lay {w2 : World} {a' : Option Addr} {c' : Nat} (h : TX w0 w b v mo P D kb a cap q dk dn s) (hb : Below w.heap.size w w2) (hx : XRes w w2 a cap (.slice a' D'.length c') D D') :
    (∀ W, W = w2.alloc (.cells #[.int .i64 mo, .slice a' D'.length c'] 29) → (W.cell? ⟨kb, 0, none⟩ = some (.int .i64 mo) ∧ W.cell? ⟨kb, 1, none⟩ = some (.slice a D.length cap)) ∧ (∀ j, W.frozen? ⟨kb, j, none⟩ = false) ∧ (W.cell? ⟨w2.heap.size, 0, none⟩ = some (.int .i64 mo) ∧ W.cell? ⟨w2.heap.size, 1, none⟩ = some (.slice a' D'.length c')) ∧ TX w0 ((W.setCell ⟨kb, 0, none⟩ (.int .i64 mo)).setCell ⟨kb, 1, none⟩ (.slice a' D'.length c')) b v mo P D' kb a' c' q dk dn s) := by
  rintro W rfl
  have hkb := h.lt
  have hq := h.ltq
  have hB := hb.alloc hb.size (.cells #[.int .i64 mo, .slice a' D'.length c'] 29)
  have hS := hB.size
  have h3 := h.keep hB
  obtain ⟨⟨p0, p1⟩, pf⟩ := row2 h3.box
  have hlast := heap_alloc_last w2 (.cells #[.int .i64 mo, .slice a' D'.length c'] 29)
  obtain ⟨⟨l0, l1⟩, _⟩ := row2 hlast
  refine ⟨⟨p0, p1⟩, pf, ⟨l0, l1⟩, ?_⟩
  obtain ⟨W, hW⟩ : ∃ W, w2.alloc (.cells #[.int .i64 mo, .slice a' D'.length c'] 29) = W := ⟨_, rfl⟩
  rw [hW] at hB hS h3 ⊢
  have hWs : W.heap.size = w2.heap.size + 1 := by rw [← hW]; simp
  have kk : ∀ j, j ≠ kb → ((W.setCell ⟨kb, 0, none⟩ (.int .i64 mo)).setCell ⟨kb, 1, none⟩ (.slice a' D'.length c')).heap[j]? = W.heap[j]? := fun j hb => (heap_setCell_other _ ⟨kb, 1, none⟩ j _ hb).trans (heap_setCell_other _ ⟨kb, 0, none⟩ j _ hb)
  have hss : ((W.setCell ⟨kb, 0, none⟩ (.int .i64 mo)).setCell ⟨kb, 1, none⟩ (.slice a' D'.length c')).heap.size = W.heap.size := by simp
  have hxe : XT W a' c' D' ∧ ∀ j, blk a' j → j ≠ b ∧ v.ownBlock ≠ some j ∧ j ≠ kb ∧ j < W.heap.size := by
    rcases hx with ⟨hv, hl⟩ | ho
    · subst hl
      simp only [Value.slice.injEq, true_and] at hv
      obtain ⟨rfl, rfl⟩ := hv
      exact ⟨h3.xt, h3.aa⟩
    · obtain ⟨a2, c2, hv, hx2, hbl⟩ := ho.xt
      simp only [Value.slice.injEq, true_and] at hv
      obtain ⟨rfl, rfl⟩ := hv
      refine ⟨by rw [← hW]; exact hx2.keep (bel1 w2 _), fun j hb' => ?_⟩
      have h1 := (hbl j hb').1
      have h2 := (hbl j hb').2.2
      have h4 := h.ts.x.lt
      exact ⟨by omega, fun e => by have := (h.ts.x.low j e).2; omega, by omega, by omega⟩
  refine ⟨⟨h3.ts.x.keepBut (fun k _ e => kk k (fun e' => ?_)), (h3.ts.bel.setCell h.lo _).setCell h.lo _, h3.ts.b⟩, heap_setCell_same _ kb 1 _ _ _ (heap_setCell_same W kb 0 _ _ _ h3.box), hxe.1.keepBut (fun j _ hbl => kk j (hxe.2 j hbl).2.2.1), h.ak, fun j hbl => by rw [hss]; exact hxe.2 j hbl, h.lo, (kk q h.aq.2.2).trans h3.deed, h.aq⟩
  subst e'
  rcases e with e | e
  · exact h.ak.1 e
  · exact h.ak.2 e
end
end Go.Proofs.Ytlknknacjpnmeaa
