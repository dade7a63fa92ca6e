/-
  Deeds that came in.
-/
import Derived.Test.YtcjibgpbfcedlaaA
import Derived.OpenShut
import Derived.ProofKit
import Derived.SliceStrings
import Derived.ChangeOld
namespace Go.Proofs.Ytcjibgpbfcedlaa
open Go.ChangeShapes Go.WideShapes Go.ChangeAt Go.RowKit
set_option linter.unusedVariables false

/-- A deed: its kind, a number, a moment. -/
structure Dd where
  k : Int
  a : Int
  n : Int
/-- A slice of deeds in memory. -/
def Dds (w : World) (a : Option Addr) (l : List Dd) : Prop :=
  ∀ j (h : j < l.length), ∃ b off, a = some ⟨b, off, none⟩ ∧ w.cell? ⟨b, off + j * 3, none⟩ = some (.int .i64 l[j].k) ∧ w.cell? ⟨b, off + j * 3 + 1, none⟩ = some (.int .i64 l[j].a) ∧ w.cell? ⟨b, off + j * 3 + 2, none⟩ = some (.int .i64 l[j].n)
theorem Dds.keep {w w' : World} {a : Option Addr} {l : List Dd} (h : Dds w a l) (hb : Below w.heap.size w w') : Dds w' a l := by
  intro j hj
  obtain ⟨b, off, rfl, h0, h1, h2⟩ := h j hj
  exact ⟨b, off, rfl, (hb.cell (p := ⟨b, off + j * 3, none⟩) (World.block_lt_of_cell? w _ h0)).trans h0, (hb.cell (p := ⟨b, off + j * 3 + 1, none⟩) (World.block_lt_of_cell? w _ h1)).trans h1, (hb.cell (p := ⟨b, off + j * 3 + 2, none⟩) (World.block_lt_of_cell? w _ h2)).trans h2⟩
theorem Try.cells3 : Try.prog.cellsOf 3 = 1 := by kernel_rfl
theorem Try.cells28 : Try.prog.cellsOf 28 = 3 := by kernel_rfl
theorem spot_of {w : World} {a : Addr} {v : Value} (h : w.cell? (a.add 0) = some v) : a.spot = none := by
  have hs := World.cell?_spot h
  simpa [Addr.add] using hs
theorem add_plain {w : World} {a : Addr} {j : Nat} {v : Value} (hs : a.spot = none) (h : w.cell? (a.add j) = some v) : ∃ b off, a = ⟨b, off, none⟩ ∧ w.cell? ⟨b, off + j, none⟩ = some v := by
  obtain ⟨b, off, spot⟩ := a
  simp only at hs
  subst hs
  refine ⟨b, off, rfl, ?_⟩
  rwa [show ((⟨b, off, none⟩ : Addr).add j) = ⟨b, off + j, none⟩ by unfold Addr.add; split <;> simp_all] at h
section
variable {H : Type} {enc : TypeId × Value → H} {w : World} {base : Nat} {spare : Nat → Bool} {held : Bool} {fuel : Nat}
theorem open_deed {cs : List Value} {x : DataW H × List MemPlace} (h : DataW.trod enc Try.prog w base spare held fuel 28 cs = some x) : ∃ d : Dd, cs = [.int .i64 d.k, .int .i64 d.a, .int .i64 d.n] := by
  obtain ⟨xs, n, rfl, hx, hl, hxs, hf⟩ := DataW.trod_struct Try.underlying28 h
  rw [Try.cells28] at hl
  obtain ⟨c0, c1, c2, rfl⟩ : ∃ c0 c1 c2, cs = [c0, c1, c2] := by
    match cs, hl with
    | [a, b, c], _ => exact ⟨a, b, c, rfl⟩
  have hxs3 : xs.length = 3 := hxs
  obtain ⟨x0, x1, x2, rfl⟩ : ∃ x0 x1 x2, xs = [x0, x1, x2] := by
    match xs, hxs3 with
    | [a, b, c], _ => exact ⟨a, b, c, rfl⟩
  have f0 : DataW.trod enc Try.prog w base spare held n 3 [c0] = some x0 := by have := hf 0 _ rfl; simpa [Try.cells3] using this
  have f1 : DataW.trod enc Try.prog w base spare held n 3 [c1] = some x1 := by have := hf 1 _ rfl; simpa [Try.cells3] using this
  have f2 : DataW.trod enc Try.prog w base spare held n 3 [c2] = some x2 := by have := hf 2 _ rfl; simpa [Try.cells3] using this
  obtain ⟨n0, e0, _, w0⟩ := DataW.trod_int Try.underlying3 f0
  obtain ⟨n1, e1, _, w1⟩ := DataW.trod_int Try.underlying3 f1
  obtain ⟨n2, e2, _, w2⟩ := DataW.trod_int Try.underlying3 f2
  simp only [List.cons.injEq, and_true] at e0 e1 e2
  subst e0 e1 e2
  exact ⟨⟨n0, n1, n2⟩, rfl⟩
theorem open_deeds {cs : List Value} {x : DataW H × List MemPlace} (h : DataW.trod enc Try.prog w base spare held fuel 22 cs = some x) :
    ∃ a len cap, ∃ l : List Dd, cs = [.slice a len cap] ∧ len = l.length ∧ Dds w a l ∧ l.length ≤ maxLen := by
  rcases DataW.trod_slice Try.underlying22 h with ⟨hcs, _⟩ | ⟨a, len, cap, elems, rest, n, _, hcs, _, hb, hl, hm, hlen, hel, hsp, hns⟩
  · exact ⟨none, 0, 0, [], hcs, rfl, fun j h => by simp at h, Nat.zero_le _⟩
  · have each : ∀ i, i < len → ∃ d : Dd, ∃ b off, some a = some (⟨b, off, none⟩ : Addr) ∧ w.cell? ⟨b, off + i * 3, none⟩ = some (.int .i64 d.k) ∧ w.cell? ⟨b, off + i * 3 + 1, none⟩ = some (.int .i64 d.a) ∧ w.cell? ⟨b, off + i * 3 + 2, none⟩ = some (.int .i64 d.n) := by
      intro i hi
      have he := hel i hi
      rw [List.getElem?_eq_getElem (by omega), Option.bind_eq_some_iff, Try.cells28] at he
      obtain ⟨cs', hcs', ht⟩ := he
      obtain ⟨d, rfl⟩ := open_deed ht
      obtain ⟨_, _, hc⟩ := World.cells?_some hcs'
      refine ⟨d, ?_⟩
      have k0 : w.cell? ((a.add (i * 3)).add 0) = some (.int .i64 d.k) := hc 0 (by omega)
      have k1 : w.cell? ((a.add (i * 3)).add 1) = some (.int .i64 d.a) := hc 1 (by omega)
      have k2 : w.cell? ((a.add (i * 3)).add 2) = some (.int .i64 d.n) := hc 2 (by omega)
      rw [Addr.add_add] at k0 k1 k2
      have hsp : a.spot = none := by
        have he := hel 0 (by omega)
        rw [List.getElem?_eq_getElem (by omega), Option.bind_eq_some_iff, Try.cells28] at he
        obtain ⟨cs0, hcs0, _⟩ := he
        obtain ⟨_, hl0, hc0⟩ := World.cells?_some hcs0
        have q := hc0 0 (by omega)
        rw [Addr.add_add, List.getElem?_eq_getElem (by omega)] at q
        exact spot_of (by simpa using q)
      obtain ⟨b, off, rfl, k0'⟩ := add_plain hsp k0
      obtain ⟨b', off', e, k1'⟩ := add_plain rfl k1
      cases e
      obtain ⟨b', off', e, k2'⟩ := add_plain rfl k2
      cases e
      exact ⟨b, off, rfl, k0', k1', k2'⟩
    have ⟨f, hf⟩ : ∃ f : Nat → Dd, ∀ i, i < len → ∃ b off, some a = some (⟨b, off, none⟩ : Addr) ∧ w.cell? ⟨b, off + i * 3, none⟩ = some (.int .i64 (f i).k) ∧ w.cell? ⟨b, off + i * 3 + 1, none⟩ = some (.int .i64 (f i).a) ∧ w.cell? ⟨b, off + i * 3 + 2, none⟩ = some (.int .i64 (f i).n) := by
      refine ⟨fun i => if h : i < len then Classical.choose (each i h) else ⟨0, 0, 0⟩, fun i hi => ?_⟩
      simp only [dif_pos hi]
      exact Classical.choose_spec (each i hi)
    refine ⟨some a, len, cap, (List.range len).map f, hcs, by simp, fun j hj => ?_, by simp; omega⟩
    rw [List.length_map, List.length_range] at hj
    simp only [List.getElem_map, List.getElem_range]
    exact hf j hj
end
theorem own : ownKnob Try.prog.godebug = none := by kernel_rfl
theorem laidOut : laidOutB Try.prog = true := by kernel_rfl
end Go.Proofs.Ytcjibgpbfcedlaa
