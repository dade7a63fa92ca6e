/-
  Deeds that came in.
-/
import Derived.Test.YtajgjkkggppbiaaDB
import Derived.SliceStrings
import Derived.ChangeOld
import Derived.OpenShut
import Derived.ProofKit
namespace Go.Proofs.Ytajgjkkggppbiaa
open Go.ChangeShapes Go.WideShapes Go.ChangeAt Go.RowKit
set_option linter.unusedVariables false
open M (E RX)

/-- A slice of deeds in memory. -/
def Dds (w : World) (a : Option Addr) (l : List Dd) : Prop :=
  ∀ j (h : j < l.length), ∃ b off, a = some ⟨b, off, none⟩ ∧ w.cell? ⟨b, off + j * 5, none⟩ = some (.int .i64 l[j].k) ∧ w.cell? ⟨b, off + j * 5 + 1, none⟩ = some (.int .i64 l[j].e.a) ∧ w.cell? ⟨b, off + j * 5 + 2, none⟩ = some (.int .i64 l[j].e.n) ∧ w.cell? ⟨b, off + j * 5 + 3, none⟩ = some (.int .i64 l[j].e.d) ∧ w.cell? ⟨b, off + j * 5 + 4, none⟩ = some (.int .i64 l[j].e.f)
theorem Dds.keep {w w' : World} {a : Option Addr} {l : List Dd} (h : Dds w a l) (hb : Below w.heap.size w w') : Dds w' a l := by
  intro j hj
  obtain ⟨b, off, rfl, h0, h1, h2, h3, h4⟩ := h j hj
  have hk := hb.block b (World.block_lt_of_cell? w _ h0)
  have key : ∀ o v, w.cell? ⟨b, o, none⟩ = some v → w'.cell? ⟨b, o, none⟩ = some v := fun o v h => (World.cell?_of_block (w := w) (a := ⟨b, o, none⟩) hk).trans h
  exact ⟨b, off, rfl, key _ _ h0, key _ _ h1, key _ _ h2, key _ _ h3, key _ _ h4⟩
theorem Try.cells3 : Try.prog.cellsOf 3 = 1 := by kernel_rfl
theorem Try.cells32 : Try.prog.cellsOf 32 = 4 := by kernel_rfl
theorem Try.cells34 : Try.prog.cellsOf 34 = 5 := by kernel_rfl
theorem wf_i64 {a : Int} (h : (Lit.int .i64 a).wf = true) : I64 a := by
  have := bounds_i64 h
  unfold I64
  omega
theorem spot_of {w : World} {a : Addr} {v : Value} (h : w.cell? (a.add 0) = some v) : a.spot = none := by
  have hs := World.cell?_spot h
  simpa [Addr.add] using hs
theorem add_plain {w : World} {a : Addr} {j : Nat} {v : Value} (hs : a.spot = none) (h : w.cell? (a.add j) = some v) : ∃ b off, a = ⟨b, off, none⟩ ∧ w.cell? ⟨b, off + j, none⟩ = some v := by
  obtain ⟨b, off, spot⟩ := a
  simp only at hs
  subst hs
  refine ⟨b, off, rfl, ?_⟩
  rwa [show ((⟨b, off, none⟩ : Addr).add j) = ⟨b, off + j, none⟩ by unfold Addr.add; split <;> simp_all] at h
section
variable {H : Type} {enc : TypeId × Value → H} {w : World} {base : Nat} {spare : Nat → Bool} {held : Bool} {fuel : Nat}
theorem open_piece {cs : List Value} {x : DataW H × List MemPlace} (h : DataW.trod enc Try.prog w base spare held fuel 32 cs = some x) : ∃ e : E, cs = [.int .i64 e.a, .int .i64 e.n, .int .i64 e.d, .int .i64 e.f] ∧ I64 e.a ∧ I64 e.n ∧ I64 e.d ∧ I64 e.f := by
  obtain ⟨xs, n, rfl, hx, hl, hxs, hf⟩ := DataW.trod_struct Try.underlying32 h
  rw [Try.cells32] at hl
  obtain ⟨c0, c1, c2, c3, rfl⟩ : ∃ c0 c1 c2 c3, cs = [c0, c1, c2, c3] := by
    match cs, hl with
    | [a, b, c, d], _ => exact ⟨a, b, c, d, rfl⟩
  have hxs4 : xs.length = 4 := hxs
  obtain ⟨x0, x1, x2, x3, rfl⟩ : ∃ x0 x1 x2 x3, xs = [x0, x1, x2, x3] := by
    match xs, hxs4 with
    | [a, b, c, d], _ => exact ⟨a, b, c, d, rfl⟩
  have f0 : DataW.trod enc Try.prog w base spare held n 3 [c0] = some x0 := by have := hf 0 _ rfl; simpa [Try.cells3] using this
  have f1 : DataW.trod enc Try.prog w base spare held n 3 [c1] = some x1 := by have := hf 1 _ rfl; simpa [Try.cells3] using this
  have f2 : DataW.trod enc Try.prog w base spare held n 3 [c2] = some x2 := by have := hf 2 _ rfl; simpa [Try.cells3] using this
  have f3 : DataW.trod enc Try.prog w base spare held n 3 [c3] = some x3 := by have := hf 3 _ rfl; simpa [Try.cells3] using this
  obtain ⟨n0, e0, _, w0⟩ := DataW.trod_int Try.underlying3 f0
  obtain ⟨n1, e1, _, w1⟩ := DataW.trod_int Try.underlying3 f1
  obtain ⟨n2, e2, _, w2⟩ := DataW.trod_int Try.underlying3 f2
  obtain ⟨n3, e3, _, w3⟩ := DataW.trod_int Try.underlying3 f3
  simp only [List.cons.injEq, and_true] at e0 e1 e2 e3
  subst e0 e1 e2 e3
  exact ⟨⟨n0, n1, n2, n3⟩, rfl, wf_i64 w0, wf_i64 w1, wf_i64 w2, wf_i64 w3⟩
theorem open_deed {cs : List Value} {x : DataW H × List MemPlace} (h : DataW.trod enc Try.prog w base spare held fuel 34 cs = some x) : ∃ d : Dd, cs = [.int .i64 d.k, .int .i64 d.e.a, .int .i64 d.e.n, .int .i64 d.e.d, .int .i64 d.e.f] ∧ d.ok := by
  obtain ⟨xs, n, rfl, hx, hl, hxs, hf⟩ := DataW.trod_struct Try.underlying34 h
  rw [Try.cells34] at hl
  obtain ⟨c0, c1, c2, c3, c4, rfl⟩ : ∃ c0 c1 c2 c3 c4, cs = [c0, c1, c2, c3, c4] := by
    match cs, hl with
    | [a, b, c, d, e], _ => exact ⟨a, b, c, d, e, rfl⟩
  have hxs2 : xs.length = 2 := hxs
  obtain ⟨x0, x1, rfl⟩ : ∃ x0 x1, xs = [x0, x1] := by
    match xs, hxs2 with
    | [a, b], _ => exact ⟨a, b, rfl⟩
  have f0 : DataW.trod enc Try.prog w base spare held n 3 [c0] = some x0 := by have := hf 0 _ rfl; simpa [Try.cells3] using this
  have f1 : DataW.trod enc Try.prog w base spare held n 32 [c1, c2, c3, c4] = some x1 := by have := hf 1 _ rfl; simpa [Try.cells32] using this
  obtain ⟨n0, e0, _, w0⟩ := DataW.trod_int Try.underlying3 f0
  obtain ⟨e, e1, hok⟩ := open_piece f1
  simp only [List.cons.injEq, and_true] at e0 e1
  obtain ⟨rfl, rfl, rfl, rfl⟩ := e1
  subst e0
  exact ⟨⟨n0, e⟩, rfl, wf_i64 w0, hok⟩
theorem open_deeds {cs : List Value} {x : DataW H × List MemPlace} (h : DataW.trod enc Try.prog w base spare held fuel 22 cs = some x) :
    ∃ a len cap, ∃ l : List Dd, cs = [.slice a len cap] ∧ len = l.length ∧ Dds w a l ∧ l.length ≤ maxLen ∧ ∀ d ∈ l, d.ok := by
  rcases DataW.trod_slice Try.underlying22 h with ⟨hcs, _⟩ | ⟨a, len, cap, elems, rest, n, _, hcs, _, hb, hl, hm, hlen, hel, hsp, hns⟩
  · exact ⟨none, 0, 0, [], hcs, rfl, fun j h => by simp at h, Nat.zero_le _, by simp⟩
  · have each : ∀ i, i < len → ∃ d : Dd, (∃ b off, some a = some (⟨b, off, none⟩ : Addr) ∧ w.cell? ⟨b, off + i * 5, none⟩ = some (.int .i64 d.k) ∧ w.cell? ⟨b, off + i * 5 + 1, none⟩ = some (.int .i64 d.e.a) ∧ w.cell? ⟨b, off + i * 5 + 2, none⟩ = some (.int .i64 d.e.n) ∧ w.cell? ⟨b, off + i * 5 + 3, none⟩ = some (.int .i64 d.e.d) ∧ w.cell? ⟨b, off + i * 5 + 4, none⟩ = some (.int .i64 d.e.f)) ∧ d.ok := by
      intro i hi
      have he := hel i hi
      rw [List.getElem?_eq_getElem (by omega), Option.bind_eq_some_iff, Try.cells34] at he
      obtain ⟨cs', hcs', ht⟩ := he
      obtain ⟨d, rfl, hok⟩ := open_deed ht
      obtain ⟨_, _, hc⟩ := World.cells?_some hcs'
      refine ⟨d, ?_, hok⟩
      have k0 : w.cell? ((a.add (i * 5)).add 0) = some (.int .i64 d.k) := hc 0 (by omega)
      have k1 : w.cell? ((a.add (i * 5)).add 1) = some (.int .i64 d.e.a) := hc 1 (by omega)
      have k2 : w.cell? ((a.add (i * 5)).add 2) = some (.int .i64 d.e.n) := hc 2 (by omega)
      have k3 : w.cell? ((a.add (i * 5)).add 3) = some (.int .i64 d.e.d) := hc 3 (by omega)
      have k4 : w.cell? ((a.add (i * 5)).add 4) = some (.int .i64 d.e.f) := hc 4 (by omega)
      rw [Addr.add_add] at k0 k1 k2 k3 k4
      have hsp : a.spot = none := by
        have he := hel 0 (by omega)
        rw [List.getElem?_eq_getElem (by omega), Option.bind_eq_some_iff, Try.cells34] at he
        obtain ⟨cs0, hcs0, _⟩ := he
        obtain ⟨_, hl0, hc0⟩ := World.cells?_some hcs0
        have q := hc0 0 (by omega)
        rw [Addr.add_add, List.getElem?_eq_getElem (by omega)] at q
        exact spot_of (by simpa using q)
      obtain ⟨b, off, rfl, k0'⟩ := add_plain hsp k0
      obtain ⟨b', off', e, k1'⟩ := add_plain rfl k1
      cases e
      obtain ⟨b', off', e, k2'⟩ := add_plain rfl k2
      cases e
      obtain ⟨b', off', e, k3'⟩ := add_plain rfl k3
      cases e
      obtain ⟨b', off', e, k4'⟩ := add_plain rfl k4
      cases e
      exact ⟨b, off, rfl, k0', k1', k2', k3', k4'⟩
    have ⟨f, hf⟩ : ∃ f : Nat → Dd, ∀ i, i < len → (∃ b off, some a = some (⟨b, off, none⟩ : Addr) ∧ w.cell? ⟨b, off + i * 5, none⟩ = some (.int .i64 (f i).k) ∧ w.cell? ⟨b, off + i * 5 + 1, none⟩ = some (.int .i64 (f i).e.a) ∧ w.cell? ⟨b, off + i * 5 + 2, none⟩ = some (.int .i64 (f i).e.n) ∧ w.cell? ⟨b, off + i * 5 + 3, none⟩ = some (.int .i64 (f i).e.d) ∧ w.cell? ⟨b, off + i * 5 + 4, none⟩ = some (.int .i64 (f i).e.f)) ∧ (f i).ok := by
      refine ⟨fun i => if h : i < len then Classical.choose (each i h) else ⟨0, ⟨0, 0, 0, 0⟩⟩, fun i hi => ?_⟩
      simp only [dif_pos hi]
      exact Classical.choose_spec (each i hi)
    refine ⟨some a, len, cap, (List.range len).map f, hcs, by simp, fun j hj => ?_, by simp; omega, fun d hd => ?_⟩
    · rw [List.length_map, List.length_range] at hj
      simp only [List.getElem_map, List.getElem_range]
      exact (hf j hj).1
    · obtain ⟨i, hi, rfl⟩ := List.mem_map.1 hd
      exact (hf i (List.mem_range.1 hi)).2
end
theorem own : ownKnob Try.prog.godebug = none := by kernel_rfl
theorem laidOut : laidOutB Try.prog = true := by kernel_rfl
end Go.Proofs.Ytajgjkkggppbiaa
