/-
  Texts and a deed that came in.
-/
import Derived.Test.YthffglacokfkgaaA
import Derived.SliceStrings
import Derived.ChangeOld
import Derived.OpenShut
import Derived.ShutString
import Derived.ProofKit
namespace Go.Proofs.Ythffglacokfkgaa
open Go.ChangeShapes Go.WideShapes Go.ChangeAt Go.RowKit
set_option linter.unusedVariables false

/-- A deed. -/
structure Dd where
  k : Int
  at' : Int
  txt : ByteArray
  keep : Nat
theorem Try.cells3 : Try.prog.cellsOf 3 = 1 := by kernel_rfl
theorem Try.cells9 : Try.prog.cellsOf 9 = 1 := by kernel_rfl
theorem Try.cells31 : Try.prog.cellsOf 31 = 1 := by kernel_rfl
theorem Try.cells40 : Try.prog.cellsOf 40 = 4 := by kernel_rfl
theorem wf_u64 {a : Int} (h : (Lit.int .u64 a).wf = true) : ∃ x : Nat, x < 18446744073709551616 ∧ a = (x : Int) := by
  have h1 : 0 ≤ a ∧ a ≤ 18446744073709551615 := by
    simp [Lit.wf, IntKind.min, IntKind.max, IntKind.bits, IntKind.signed] at h
    omega
  exact ⟨a.toNat, by omega, by omega⟩
theorem texts_came {w : World} {a : Addr} {ss : List ByteArray} {len : Nat} (hc : ∀ i, i < ss.length → w.cell? (a.add i) = some (.string (ss.getD i ByteArray.empty))) : AtV w (some a) (SC (ss.take len)) := by
  intro j hj
  rw [SC_len, List.length_take] at hj
  obtain ⟨b, off, spot⟩ := a
  have h := hc j (by omega)
  have hspot : spot = none := by simpa [Addr.add] using World.cell?_spot (hc 0 (by omega))
  subst hspot
  refine ⟨b, off, rfl, ?_⟩
  rw [show ((⟨b, off, none⟩ : Addr).add j) = ⟨b, off + j, none⟩ by unfold Addr.add; split <;> simp_all] at h
  rw [h]
  simp [SC, show j < ss.length by omega]
section
variable {H : Type} {enc : TypeId × Value → H} {w : World} {base : Nat} {spare : Nat → Bool} {held : Bool} {fuel : Nat}
theorem open_texts {cs : List Value} {x : DataW H × List MemPlace} (h : DataW.trod enc Try.prog w base spare held fuel 30 cs = some x) :
    ∃ a len cap, ∃ l : List ByteArray, cs = [.slice a len cap] ∧ len = l.length ∧ AtV w a (SC l) ∧ l.length ≤ maxLen ∧ ∀ s ∈ l, s.size ≤ maxLen := by
  rcases open_strings Try.underlying30 Try.underlying9 Try.cells9 h with ⟨hcs, _⟩ | ⟨a, len, cap, ss, hcs, _, hl, hm, hz, hx, hcell, hws⟩
  · exact ⟨none, 0, 0, [], hcs, rfl, AtV.nil _ _, Nat.zero_le _, fun s h => by cases h⟩
  · have hle : len ≤ ss.length := by rw [hz]; split <;> omega
    have e : (ss.take len).length = len := by rw [List.length_take]; omega
    exact ⟨some a, len, cap, ss.take len, hcs, e.symm, texts_came hcell, by omega, fun s h => hws s (List.mem_of_mem_take h)⟩
set_option maxRecDepth 100000 in
theorem open_deed {cs : List Value} {x : DataW H × List MemPlace} (h : DataW.trod enc Try.prog w base spare held fuel 40 cs = some x) : ∃ d : Dd, cs = [.int .i64 d.k, .int .i64 d.at', .string d.txt, .int .u64 (d.keep : Int)] ∧ d.keep < 18446744073709551616 := by
  obtain ⟨xs, n, rfl, hx, hl, hxs, hf⟩ := DataW.trod_struct Try.underlying40 h
  rw [Try.cells40] at hl
  obtain ⟨c0, c1, c2, c3, rfl⟩ : ∃ c0 c1 c2 c3, cs = [c0, c1, c2, c3] := by
    match cs, hl with
    | [a, b, c, d], _ => exact ⟨a, b, c, d, rfl⟩
  have hxs4 : xs.length = 4 := hxs
  obtain ⟨x0, x1, x2, x3, rfl⟩ : ∃ x0 x1 x2 x3, xs = [x0, x1, x2, x3] := by
    match xs, hxs4 with
    | [a, b, c, d], _ => exact ⟨a, b, c, d, rfl⟩
  have f0 : DataW.trod enc Try.prog w base spare held n 3 [c0] = some x0 := by have := hf 0 _ rfl; simpa [Try.cells3] using this
  have f1 : DataW.trod enc Try.prog w base spare held n 3 [c1] = some x1 := by have := hf 1 _ rfl; simpa [Try.cells3] using this
  have f2 : DataW.trod enc Try.prog w base spare held n 9 [c2] = some x2 := by have := hf 2 _ rfl; simpa [Try.cells9] using this
  have f3 : DataW.trod enc Try.prog w base spare held n 31 [c3] = some x3 := by have := hf 3 _ rfl; simpa [Try.cells31] using this
  obtain ⟨n0, e0, _, w0⟩ := DataW.trod_int Try.underlying3 f0
  obtain ⟨n1, e1, _, w1⟩ := DataW.trod_int Try.underlying3 f1
  obtain ⟨s2, e2, _, w2⟩ := DataW.trod_string Try.underlying9 f2
  obtain ⟨n3, e3, _, w3⟩ := DataW.trod_int Try.underlying31 f3
  obtain ⟨k3, hk3, rfl⟩ := wf_u64 w3
  simp only [List.cons.injEq, and_true] at e0 e1 e2 e3
  subst e0 e1 e2 e3
  exact ⟨⟨n0, n1, s2, k3⟩, rfl, hk3⟩
end
theorem own : ownKnob Try.prog.godebug = none := by kernel_rfl
theorem laidOut : laidOutB Try.prog = true := by kernel_rfl
end Go.Proofs.Ythffglacokfkgaa
