/-
  The program's calls and the document's side by side.
-/
import Derived.Test.YtbgbdiiinggjnaaOnceW
import Derived.Test.YtbgbdiiinggjnaaRG
namespace Go.Proofs.Ytbgbdiiinggjnaa
open Go.RowKit
set_option linter.unusedVariables false
open M (E)
open Cl (K W Ms fup Rel)

namespace Cl
theorem run_len (me now : Int) : ∀ (ids : List Int) (L : List K) (o : List Ms), (run me now ids L o).1.length = L.length
  | [], L, o => rfl
  | i :: r, L, o => by rw [run_cons, run_len me now r]; unfold upd; rw [List.length_map]
theorem run_out (me now : Int) : ∀ (ids : List Int) (L : List K) (o : List Ms), (run me now ids L o).2.length ≤ o.length + ids.length
  | [], L, o => by simp [run]
  | i :: r, L, o => by
    rw [run_cons]
    have h1 := run_out me now r (upd L i (stepK now)) (o ++ outK me L i)
    have h2 : (outK me L i).length ≤ 1 := by unfold outK; split; split <;> simp; simp
    rw [List.length_append] at h1
    simp only [List.length_cons]
    omega
theorem ans_length (me : Int) (L : List K) (m : Ms) : (ans me L m).length = L.length := by
  unfold ans
  split
  · unfold upd; rw [List.length_map]
  · rfl
theorem fgt_length (L : List K) (i : Int) : (fgt L i).length ≤ L.length := by
  unfold fgt
  split
  · exact List.length_filter_le _ _
  · exact Nat.le_refl _
theorem callL_length (L : List K) (next x now : Int) (s : ByteArray) : (callL L next x now s).length ≤ L.length + 1 := by
  unfold callL
  split
  · simp
  · omega
end Cl
theorem KS.dues {w0 w : World} {b : Nat} {F : Nat → Prop} {me next : Int} {L : List K} (h : KS w0 w b F me next L) (now : Int) : ∃ ids, Cl.Dues L now ids ∧ ids.length ≤ 64 := by
  obtain ⟨bt, m, vt, vo, n, O, P, f, rfl, hX, hR⟩ := h.ex
  exact ⟨_, hR.dues hX.tm.g now, by have := M.dueI_len P now; have := hX.tm.len; omega⟩
/-- The document's calls in a box. -/
structure RX (w : World) (F : Nat → Prop) (xb : Nat) (me next : Int) (a : Option Addr) (cap : Nat) (L : List K) : Prop where
  bx : Bx w F xb (.cells #[.int .i64 me, .int .i64 next, .slice a L.length cap] 29 (0, 0))
  rn : RN w a cap L
  na : ∀ k, blk a k → ¬ F k ∧ k < w.heap.size ∧ k ≠ xb
theorem RX.step {w w' : World} {F G : Nat → Prop} {xb : Nat} {me next : Int} {a : Option Addr} {cap : Nat} {L : List K} (h : RX w F xb me next a cap L) (hF : Fr w F w' G) : RX w' G xb me next a cap L := by
  refine ⟨h.bx.step hF, h.rn.keepBut fun k hk hb => hF.block k hk (h.na k hb).1, fun k hb => ?_⟩
  obtain ⟨h1, h2, h3⟩ := h.na k hb
  refine ⟨fun hg => ?_, Nat.lt_of_lt_of_le h2 hF.size, h3⟩
  rcases hF.n k hg with h' | h'
  · exact h1 h'
  · omega
theorem RX.keep {w w' : World} {F : Nat → Prop} {xb : Nat} {me next : Int} {a : Option Addr} {cap : Nat} {L : List K} (h : RX w F xb me next a cap L) (hb : Below w.heap.size w w') : RX w' F xb me next a cap L := h.step (Fr.ofBelow hb)
/-- Both, and a deed in a box. -/
structure PX (w0 : World) (b xb dk : Nat) (d : Dd) (w : World) (F : Nat → Prop) (me next : Int) (L : List K) (next2 : Int) (a : Option Addr) (cap : Nat) (L2 : List K) : Prop where
  ks : KS w0 w b F me next L
  rx : RX w F xb me next2 a cap L2
  bd : Bx w F dk (db d)
  ne : dk ≠ xb
  lo : w0.heap.size ≤ xb
section
variable {w0 : World} {b xb dk : Nat} {d : Dd} {w w1 w' : World} {F G : Nat → Prop} {me next next2 next' : Int} {L L2 L' : List K} {a a' : Option Addr} {cap cap' : Nat}
theorem PX.step (h : PX w0 b xb dk d w F me next L next2 a cap L2) (hF : Fr w F w' G) (hk : KS w0 w' b G me next' L') : PX w0 b xb dk d w' G me next' L' next2 a cap L2 := ⟨hk, h.rx.step hF, h.bd.step hF, h.ne, h.lo⟩
theorem PX.keep (h : PX w0 b xb dk d w F me next L next2 a cap L2) (hb : Below w.heap.size w w') : PX w0 b xb dk d w' F me next L next2 a cap L2 := ⟨h.ks.keep hb, h.rx.keep hb, h.bd.keep hb, h.ne, h.lo⟩
/-- What a call of the document's leaves is laid into the box. -/
theorem PX.refd (h : PX w0 b xb dk d w F me next L next2 a cap L2) (hb : Below w.heap.size w w1) (hx : XL kl w1 a' cap' L') (hli : Lie w a w1 a') (hl : L'.length ≤ 1000) (W2 : World) (hW2 : w1.alloc (.cells #[.int .i64 me, .int .i64 next', .slice a' L'.length cap'] 29) = W2) (W3 : World) (hW3 : put3 W2 xb (.int .i64 me) (.int .i64 next') (.slice a' L'.length cap') = W3) :
    (W2.cell? ⟨w1.heap.size, 0, none⟩ = some (.int .i64 me) ∧ W2.cell? ⟨w1.heap.size, 1, none⟩ = some (.int .i64 next') ∧ W2.cell? ⟨w1.heap.size, 2, none⟩ = some (.slice a' L'.length cap')) ∧ ((W2.cell? ⟨xb, 0, none⟩ = some (.int .i64 me) ∧ W2.cell? ⟨xb, 1, none⟩ = some (.int .i64 next2) ∧ W2.cell? ⟨xb, 2, none⟩ = some (.slice a L2.length cap)) ∧ (W2.frozen? ⟨xb, 0, none⟩ = false ∧ W2.frozen? ⟨xb, 1, none⟩ = false ∧ W2.frozen? ⟨xb, 2, none⟩ = false)) ∧
    PX w0 b xb dk d W3 F me next L next' a' cap' L' ∧ ∀ k, k ≠ xb → k < w1.heap.size → W3.heap[k]? = w1.heap[k]? := by
  have hb2 : Below w1.heap.size w1 W2 := by rw [← hW2]; exact bel1 w1 _
  have hb12 := bel_up hb hb2 (Nat.le_refl _)
  have hxl := (Array.getElem?_eq_some_iff.1 h.rx.bx.at').1
  have hx2 : W2.heap[xb]? = _ := (hb12.block xb hxl).trans h.rx.bx.at'
  have hn2 : W2.heap[w1.heap.size]? = some (.cells #[.int .i64 me, .int .i64 next', .slice a' L'.length cap'] 29 (0, 0)) := by rw [← hW2]; exact heap_alloc_last w1 _
  have hs1 := hb.size
  have hs2 : W2.heap.size = w1.heap.size + 1 := by rw [← hW2]; simp
  have hoth : ∀ k, k ≠ xb → W3.heap[k]? = W2.heap[k]? := fun k hk => by rw [← hW3]; exact put3_oth hk _ _ _
  have hx3 : W3.heap[xb]? = some (.cells #[.int .i64 me, .int .i64 next', .slice a' L'.length cap'] 29 (0, 0)) := by rw [← hW3]; exact put3_row hx2 _ _ _
  have hs3 : W3.heap.size = W2.heap.size := by rw [← hW3]; exact put3_size _ _ _ _ _
  obtain ⟨c1, c2⟩ := rw3 hx2
  have hmine := h.ks.mine
  have hnx : ∀ k, blk a' k → ¬ F k ∧ k < w1.heap.size ∧ k ≠ xb := fun k hk => by
    rcases hli.l k hk with h' | ⟨h1, h2⟩
    · obtain ⟨e1, e2, e3⟩ := h.rx.na k h'
      exact ⟨e1, by omega, e3⟩
    · exact ⟨fun e => by have := (hmine k e).2; omega, h2, by omega⟩
  have hB3 : Below w0.heap.size w0 W3 := by rw [← hW3]; exact put3_bel (bel_up h.ks.bel hb12 (by have := h.ks.bel.size; omega)) h.lo _ _ _
  refine ⟨(rw3 hn2).1, ⟨c1, c2 0, c2 1, c2 2⟩, ⟨h.ks.keepBut (fun k hk hF => (hoth k (fun e => h.rx.bx.nf (by rw [← e]; exact hF))).trans (hb12.block k hk)) hB3, ⟨⟨hx3, h.rx.bx.nf⟩, ⟨(hx.keep hb2).keepBut fun k hk hbk => hoth k (hnx k hbk).2.2, hl⟩, fun k hk => ⟨(hnx k hk).1, by have := (hnx k hk).2.1; omega, (hnx k hk).2.2⟩⟩, ⟨(hoth dk h.ne).trans ((h.bd.keep hb12).at'), h.bd.nf⟩, h.ne, h.lo⟩, fun k h1 h2 => (hoth k h1).trans (hb2.block k h2)⟩
end
/-- In the loop. -/
structure PL (w0 : World) (b xb : Nat) (i : Nat) (w : World) (F : Nat → Prop) (me next : Int) (L : List K) (a : Option Addr) (cap : Nat) : Prop where
  ks : KS w0 w b F me next L
  rx : RX w F xb me next a cap L
  lo : w0.heap.size ≤ xb
  ln : L.length ≤ i
theorem PL.begin {w0 : World} {b xb i : Nat} {w : World} {F : Nat → Prop} {me next : Int} {L : List K} {a : Option Addr} {cap : Nat} (h : PL w0 b xb i w F me next L a cap) (d : Dd) : PX w0 b xb w.heap.size d (w.alloc (db d)) F me next L next a cap L :=
  ⟨h.ks.keep (bel1 w _), h.rx.keep (bel1 w _), Bx.new h.ks _, by have := (Array.getElem?_eq_some_iff.1 h.rx.bx.at').1; omega, h.lo⟩
theorem PX.close {w0 : World} {b xb dk : Nat} {d : Dd} {w : World} {F : Nat → Prop} {me next : Int} {L : List K} {a : Option Addr} {cap : Nat} (h : PX w0 b xb dk d w F me next L next a cap L) {i : Nat} (hl : L.length ≤ i) : PL w0 b xb i w F me next L a cap := ⟨h.ks, h.rx, h.lo, hl⟩
/-- Both ends of a round's test: what Open tells. -/
theorem PX.opn {w0 : World} {b xb dk : Nat} {d : Dd} {w : World} {F : Nat → Prop} {me next : Int} {L : List K} {a : Option Addr} {cap : Nat} (h : PX w0 b xb dk d w F me next L next a cap L) : (w.cell? ⟨xb, 0, none⟩ = some (.int .i64 me) ∧ w.cell? ⟨xb, 1, none⟩ = some (.int .i64 next) ∧ w.cell? ⟨xb, 2, none⟩ = some (.slice a L.length cap)) := (rw3 h.rx.bx.at').1
end Go.Proofs.Ytbgbdiiinggjnaa
