/-
  Ballots, votes, notes and deeds that came in.
-/
import Derived.Test.YtfjlanhekheecaaAW
import Derived.SliceStrings
import Derived.ChangeOld
import Derived.OpenShut
import Derived.ShutString
import Derived.ProofKit
import Derived.SizedLaws
namespace Go.Proofs.Ytfjlanhekheecaa
open Go.ChangeShapes Go.WideShapes Go.ChangeAt Go.RowKit
set_option linter.unusedVariables false
open M (E V)
open Rm (NT R)

/-- A deed: its kind, a number, a text, a note. -/
structure D where
  k : Int
  dst : Int
  tx : ByteArray
  y : RN
def dl : Ly D := ⟨10, fun d => [.int .i64 d.k, .int .i64 d.dst, .string d.tx, .int .i64 d.y.x.k, .int .i64 d.y.x.f, .int .i64 d.y.x.t, .int .i64 d.y.x.s, .int .i64 d.y.x.b.i, .int .i64 d.y.x.b.t, .slice d.y.ad d.y.x.v.length d.y.c], fun _ => rfl, fun x v h => by simp at h; rcases h with rfl | rfl | rfl | rfl | rfl | rfl | rfl | rfl | rfl | rfl <;> rfl, by decide⟩
theorem AtL.getD {w : World} {a : Option Addr} {l : List D} (h : AtL dl w a l) (j : Nat) (hj : j < l.length) : ∃ b off, a = some ⟨b, off, none⟩ ∧ w.cell? ⟨b, off + j * 10, none⟩ = some (.int .i64 l[j].k) ∧ w.cell? ⟨b, off + j * 10 + 1, none⟩ = some (.int .i64 l[j].dst) ∧ w.cell? ⟨b, off + j * 10 + 2, none⟩ = some (.string l[j].tx) ∧ w.cell? ⟨b, off + j * 10 + 3, none⟩ = some (.int .i64 l[j].y.x.k) ∧ w.cell? ⟨b, off + j * 10 + 4, none⟩ = some (.int .i64 l[j].y.x.f) ∧ w.cell? ⟨b, off + j * 10 + 5, none⟩ = some (.int .i64 l[j].y.x.t) ∧ w.cell? ⟨b, off + j * 10 + 6, none⟩ = some (.int .i64 l[j].y.x.s) ∧ w.cell? ⟨b, off + j * 10 + 7, none⟩ = some (.int .i64 l[j].y.x.b.i) ∧ w.cell? ⟨b, off + j * 10 + 8, none⟩ = some (.int .i64 l[j].y.x.b.t) ∧ w.cell? ⟨b, off + j * 10 + 9, none⟩ = some (.slice l[j].y.ad l[j].y.x.v.length l[j].y.c) := by
  obtain ⟨b, off, e, h0⟩ := h j hj
  exact ⟨b, off, e, h0 0 (by decide), h0 1 (by decide), h0 2 (by decide), h0 3 (by decide), h0 4 (by decide), h0 5 (by decide), h0 6 (by decide), h0 7 (by decide), h0 8 (by decide), h0 9 (by decide)⟩
/-- What a note that came in bears. -/
structure YOk (w : World) (y : RN) : Prop where
  xl : XL vl w y.ad y.c y.x.v
  wf : ∀ x ∈ y.x.v, (Lit.int .i64 x.s).wf = true
  sz : ∀ x ∈ y.x.v, x.v.size ≤ maxLen
/-- What a deed that came in bears. -/
structure DOk (w : World) (d : D) : Prop where
  y : YOk w d.y
  tx : d.tx.size ≤ maxLen
theorem YOk.keep {w w' : World} {y : RN} (h : YOk w y) (hb : Below w.heap.size w w') : YOk w' y := ⟨h.xl.keep hb, h.wf, h.sz⟩
theorem DOk.keep {w w' : World} {d : D} (h : DOk w d) (hb : Below w.heap.size w w') : DOk w' d := ⟨h.y.keep hb, h.tx⟩
theorem cell_lt {w : World} {b o : Nat} {v : Value} (h : w.cell? ⟨b, o, none⟩ = some v) : b < w.heap.size := by
  rcases Nat.lt_or_ge b w.heap.size with h' | h'
  · exact h'
  · have e : w.heap[b]? = none := Array.getElem?_eq_none h'
    unfold World.cell? at h
    simp [e] at h
theorem AtL.lt {α : Type} {Y : Ly α} {w : World} {a : Option Addr} {l : List α} (h : AtL Y w a l) (hl : 0 < l.length) : ∀ k, blk a k → k < w.heap.size := by
  rintro k ⟨off, s, rfl⟩
  obtain ⟨b, off', e, h0⟩ := h 0 hl
  cases e
  exact cell_lt (h0 0 Y.pos)
theorem own : ownKnob Try.prog.godebug = none := by kernel_rfl
theorem laidOut : laidOutB Try.prog = true := by kernel_rfl
theorem Try.cells3 : Try.prog.cellsOf 3 = 1 := by kernel_rfl
theorem Try.cells9 : Try.prog.cellsOf 9 = 1 := by kernel_rfl
theorem Try.cells30 : Try.prog.cellsOf 30 = 2 := by kernel_rfl
theorem Try.cells27 : Try.prog.cellsOf 27 = 1 := by kernel_rfl
theorem Try.cells42 : Try.prog.cellsOf 42 = 4 := by kernel_rfl
theorem Try.cells32 : Try.prog.cellsOf 32 = 7 := by kernel_rfl
theorem Try.cells34 : Try.prog.cellsOf 34 = 10 := by kernel_rfl
theorem spot_of {w : World} {a : Addr} {v : Value} (h : w.cell? (a.add 0) = some v) : a.spot = none := by
  have hs := World.cell?_spot h
  simpa [Addr.add] using hs
section
variable {H : Type} {enc : TypeId × Value → H} {w : World} {base : Nat} {spare : Nat → Bool} {held : Bool} {fuel : Nat}
set_option maxRecDepth 100000 in
theorem open_ballot {cs : List Value} {x : DataW H × List MemPlace} (h : DataW.trod enc Try.prog w base spare held fuel 30 cs = some x) : ∃ d : E, cs = bl.cs d ∧ True := by
  obtain ⟨xs, n, rfl, hx, hl, hxs, hf⟩ := DataW.trod_struct Try.underlying30 h
  rw [Try.cells30] at hl
  obtain ⟨c0, c1, rfl⟩ : ∃ c0 c1, cs = [c0, c1] := by
    match cs, hl with
    | [a, b], _ => exact ⟨a, b, rfl⟩
  have hxs2 : xs.length = 2 := hxs
  obtain ⟨x0, x1, rfl⟩ : ∃ x0 x1, xs = [x0, x1] := by
    match xs, hxs2 with
    | [a, b], _ => exact ⟨a, b, rfl⟩
  have f0 : DataW.trod enc Try.prog w base spare held n 3 [c0] = some x0 := by have := hf 0 _ rfl; simpa [Try.cells3] using this
  have f1 : DataW.trod enc Try.prog w base spare held n 3 [c1] = some x1 := by have := hf 1 _ rfl; simpa [Try.cells3] using this
  obtain ⟨n0, e0, _, w0⟩ := DataW.trod_int Try.underlying3 f0
  obtain ⟨n1, e1, _, w1⟩ := DataW.trod_int Try.underlying3 f1
  simp only [List.cons.injEq, and_true] at e0 e1
  subst e0 e1
  exact ⟨⟨n0, n1⟩, rfl, trivial⟩
set_option maxRecDepth 100000 in
theorem open_vote {cs : List Value} {x : DataW H × List MemPlace} (h : DataW.trod enc Try.prog w base spare held fuel 42 cs = some x) : ∃ d : V, cs = vl.cs d ∧ d.v.size ≤ maxLen ∧ (Lit.int .i64 d.s).wf = true := by
  obtain ⟨xs, n, rfl, hx, hl, hxs, hf⟩ := DataW.trod_struct Try.underlying42 h
  rw [Try.cells42] at hl
  obtain ⟨c0, c1, c2, c3, rfl⟩ : ∃ c0 c1 c2 c3, cs = [c0, c1, c2, c3] := by
    match cs, hl with
    | [a, b, c, d], _ => exact ⟨a, b, c, d, rfl⟩
  have hxs2 : xs.length = 3 := hxs
  obtain ⟨x0, x1, x2, rfl⟩ : ∃ x0 x1 x2, xs = [x0, x1, x2] := by
    match xs, hxs2 with
    | [a, b, c], _ => exact ⟨a, b, c, rfl⟩
  have f0 : DataW.trod enc Try.prog w base spare held n 3 [c0] = some x0 := by have := hf 0 _ rfl; simpa [Try.cells3] using this
  have f1 : DataW.trod enc Try.prog w base spare held n 30 [c1, c2] = some x1 := by have := hf 1 _ rfl; simpa [Try.cells30] using this
  have f2 : DataW.trod enc Try.prog w base spare held n 9 [c3] = some x2 := by have := hf 2 _ rfl; simpa [Try.cells9] using this
  obtain ⟨n0, e0, _, w0⟩ := DataW.trod_int Try.underlying3 f0
  obtain ⟨d, e1, _⟩ := open_ballot f1
  obtain ⟨s3, e3, g3, w3⟩ := DataW.trod_string Try.underlying9 f2
  have e1' : [c1, c2] = [.int .i64 d.i, .int .i64 d.t] := e1
  simp only [List.cons.injEq, and_true] at e0 e1' e3
  obtain ⟨rfl, rfl⟩ := e1'
  subst e0 e3
  exact ⟨⟨n0, d, s3⟩, rfl, w3, w0⟩
set_option maxRecDepth 100000 in
theorem open_votes {cs : List Value} {x : DataW H × List MemPlace} (h : DataW.trod enc Try.prog w base spare held fuel 27 cs = some x) :
    ∃ a len cap, ∃ l : List V, cs = [.slice a len cap] ∧ len = l.length ∧ XL vl w a cap l ∧ ∀ d ∈ l, d.v.size ≤ maxLen ∧ (Lit.int .i64 d.s).wf = true := by
  rcases DataW.trod_slice Try.underlying27 h with ⟨hcs, _⟩ | ⟨a, len, cap, elems, rest, n, _, hcs, hx, hb, hl, hm, hlen, hel, hsp, hns⟩
  · exact ⟨none, 0, 0, [], hcs, rfl, XL.emp _, by simp⟩
  · have each : ∀ i, i < len → ∃ d : V, (∃ b off, some a = some (⟨b, off, none⟩ : Addr) ∧ ∀ o (ho : o < 4), w.cell? ⟨b, off + i * 4 + o, none⟩ = some ((vl.cs d)[o]'ho)) ∧ d.v.size ≤ maxLen ∧ (Lit.int .i64 d.s).wf = true := by
      intro i hi
      have he := hel i hi
      rw [List.getElem?_eq_getElem (by omega), Option.bind_eq_some_iff, Try.cells42] at he
      obtain ⟨cs', hcs', ht⟩ := he
      obtain ⟨d, rfl, hwt⟩ := open_vote ht
      obtain ⟨_, _, hc⟩ := World.cells?_some hcs'
      refine ⟨d, ?_, ?_⟩
      · have hsp : a.spot = none := by
          have he := hel 0 (by omega)
          rw [List.getElem?_eq_getElem (by omega), Option.bind_eq_some_iff, Try.cells42] at he
          obtain ⟨cs0, hcs0, _⟩ := he
          obtain ⟨_, hl0, hc0⟩ := World.cells?_some hcs0
          have q := hc0 0 (by omega)
          rw [Addr.add_add, List.getElem?_eq_getElem (by omega)] at q
          exact spot_of (by simpa using q)
        obtain ⟨b, off, sp⟩ := a
        simp only at hsp
        subst hsp
        refine ⟨b, off, rfl, fun o ho => ?_⟩
        have q := hc o (by omega)
        rw [add_n, add_n, List.getElem?_eq_getElem (show o < (vl.cs d).length from ho)] at q
        exact q
      · exact hwt
    have ⟨f, hf⟩ : ∃ f : Nat → V, ∀ i, i < len → (∃ b off, some a = some (⟨b, off, none⟩ : Addr) ∧ ∀ o (ho : o < 4), w.cell? ⟨b, off + i * 4 + o, none⟩ = some ((vl.cs (f i))[o]'ho)) ∧ (f i).v.size ≤ maxLen ∧ (Lit.int .i64 (f i).s).wf = true := by
      refine ⟨fun i => if h : i < len then Classical.choose (each i h) else ⟨0, ⟨0, 0⟩, ⟨#[]⟩⟩, fun i hi => ?_⟩
      simp only [dif_pos hi]
      exact Classical.choose_spec (each i hi)
    refine ⟨some a, len, cap, (List.range len).map f, hcs, by simp, ⟨fun j hj => ?_, by simp; omega, hm, fun e => by cases e⟩, fun d hd => ?_⟩
    · rw [List.length_map, List.length_range] at hj
      simp only [List.getElem_map, List.getElem_range]
      exact (hf j hj).1
    · obtain ⟨i, hi, rfl⟩ := List.mem_map.1 hd
      exact (hf i (List.mem_range.1 hi)).2

set_option maxRecDepth 100000 in
theorem open_note {cs : List Value} {x : DataW H × List MemPlace} (h : DataW.trod enc Try.prog w base spare held fuel 32 cs = some x) : ∃ y : RN, cs = nl.cs y ∧ YOk w y := by
  obtain ⟨xs, n, rfl, hx, hl, hxs, hf⟩ := DataW.trod_struct Try.underlying32 h
  rw [Try.cells32] at hl
  obtain ⟨c0, c1, c2, c3, c4, c5, c6, rfl⟩ : ∃ c0 c1 c2 c3 c4 c5 c6, cs = [c0, c1, c2, c3, c4, c5, c6] := by
    match cs, hl with
    | [a, b, c, d, e, f, g], _ => exact ⟨a, b, c, d, e, f, g, rfl⟩
  have hxs2 : xs.length = 6 := hxs
  obtain ⟨x0, x1, x2, x3, x4, x5, rfl⟩ : ∃ x0 x1 x2 x3 x4 x5, xs = [x0, x1, x2, x3, x4, x5] := by
    match xs, hxs2 with
    | [a, b, c, d, e, f], _ => exact ⟨a, b, c, d, e, f, rfl⟩
  have f0 : DataW.trod enc Try.prog w base spare held n 3 [c0] = some x0 := by have := hf 0 _ rfl; simpa [Try.cells3] using this
  have f1 : DataW.trod enc Try.prog w base spare held n 3 [c1] = some x1 := by have := hf 1 _ rfl; simpa [Try.cells3] using this
  have f2 : DataW.trod enc Try.prog w base spare held n 3 [c2] = some x2 := by have := hf 2 _ rfl; simpa [Try.cells3] using this
  have f3 : DataW.trod enc Try.prog w base spare held n 3 [c3] = some x3 := by have := hf 3 _ rfl; simpa [Try.cells3] using this
  have f4 : DataW.trod enc Try.prog w base spare held n 30 [c4, c5] = some x4 := by have := hf 4 _ rfl; simpa [Try.cells30] using this
  have f5 : DataW.trod enc Try.prog w base spare held n 27 [c6] = some x5 := by have := hf 5 _ rfl; simpa [Try.cells27] using this
  obtain ⟨n0, e0, _, w0⟩ := DataW.trod_int Try.underlying3 f0
  obtain ⟨n1, e1, _, w1⟩ := DataW.trod_int Try.underlying3 f1
  obtain ⟨n2, e2, _, w2⟩ := DataW.trod_int Try.underlying3 f2
  obtain ⟨n3, e3, _, w3⟩ := DataW.trod_int Try.underlying3 f3
  obtain ⟨d, e4, _⟩ := open_ballot f4
  obtain ⟨a, len, cap, l, e5, rfl, hx5, hl5⟩ := open_votes f5
  have e4' : [c4, c5] = [.int .i64 d.i, .int .i64 d.t] := e4
  simp only [List.cons.injEq, and_true] at e0 e1 e2 e3 e4' e5
  obtain ⟨rfl, rfl⟩ := e4'
  subst e0 e1 e2 e3 e5
  exact ⟨⟨⟨n0, n1, n2, n3, d, l⟩, a, cap⟩, rfl, ⟨hx5, fun x hx => (hl5 x hx).2, fun x hx => (hl5 x hx).1⟩⟩
set_option maxRecDepth 100000 in
theorem open_deed {cs : List Value} {x : DataW H × List MemPlace} (h : DataW.trod enc Try.prog w base spare held fuel 34 cs = some x) : ∃ d : D, cs = dl.cs d ∧ DOk w d := by
  obtain ⟨xs, n, rfl, hx, hl, hxs, hf⟩ := DataW.trod_struct Try.underlying34 h
  rw [Try.cells34] at hl
  obtain ⟨c0, c1, c2, c3, c4, c5, c6, c7, c8, c9, rfl⟩ : ∃ c0 c1 c2 c3 c4 c5 c6 c7 c8 c9, cs = [c0, c1, c2, c3, c4, c5, c6, c7, c8, c9] := by
    match cs, hl with
    | [a, b, c, d, e, f, g, h, i, j], _ => exact ⟨a, b, c, d, e, f, g, h, i, j, rfl⟩
  have hxs2 : xs.length = 4 := hxs
  obtain ⟨x0, x1, x2, x3, rfl⟩ : ∃ x0 x1 x2 x3, xs = [x0, x1, x2, x3] := by
    match xs, hxs2 with
    | [a, b, c, d], _ => exact ⟨a, b, c, d, rfl⟩
  have f0 : DataW.trod enc Try.prog w base spare held n 3 [c0] = some x0 := by have := hf 0 _ rfl; simpa [Try.cells3] using this
  have f1 : DataW.trod enc Try.prog w base spare held n 3 [c1] = some x1 := by have := hf 1 _ rfl; simpa [Try.cells3] using this
  have f2 : DataW.trod enc Try.prog w base spare held n 9 [c2] = some x2 := by have := hf 2 _ rfl; simpa [Try.cells9] using this
  have f3 : DataW.trod enc Try.prog w base spare held n 32 [c3, c4, c5, c6, c7, c8, c9] = some x3 := by have := hf 3 _ rfl; simpa [Try.cells32] using this
  obtain ⟨n0, e0, _, w0⟩ := DataW.trod_int Try.underlying3 f0
  obtain ⟨n1, e1, _, w1⟩ := DataW.trod_int Try.underlying3 f1
  obtain ⟨s2, e2, g2, w2⟩ := DataW.trod_string Try.underlying9 f2
  obtain ⟨y, e3, hy⟩ := open_note f3
  have e3' : [c3, c4, c5, c6, c7, c8, c9] = [.int .i64 y.x.k, .int .i64 y.x.f, .int .i64 y.x.t, .int .i64 y.x.s, .int .i64 y.x.b.i, .int .i64 y.x.b.t, .slice y.ad y.x.v.length y.c] := e3
  simp only [List.cons.injEq, and_true] at e0 e1 e2 e3'
  obtain ⟨rfl, rfl, rfl, rfl, rfl, rfl, rfl⟩ := e3'
  subst e0 e1 e2
  exact ⟨⟨n0, n1, s2, y⟩, rfl, ⟨hy, w2⟩⟩
set_option maxRecDepth 100000 in
theorem open_deeds {cs : List Value} {x : DataW H × List MemPlace} (h : DataW.trod enc Try.prog w base spare held fuel 22 cs = some x) :
    ∃ a len cap, ∃ l : List D, cs = [.slice a len cap] ∧ len = l.length ∧ AtL dl w a l ∧ l.length ≤ maxLen ∧ ∀ d ∈ l, DOk w d := by
  rcases DataW.trod_slice Try.underlying22 h with ⟨hcs, _⟩ | ⟨a, len, cap, elems, rest, n, _, hcs, hx, hb, hl, hm, hlen, hel, hsp, hns⟩
  · exact ⟨none, 0, 0, [], hcs, rfl, AtL.nil _ _, Nat.zero_le _, by simp⟩
  · have each : ∀ i, i < len → ∃ d : D, (∃ b off, some a = some (⟨b, off, none⟩ : Addr) ∧ ∀ o (ho : o < 10), w.cell? ⟨b, off + i * 10 + o, none⟩ = some ((dl.cs d)[o]'ho)) ∧ DOk w d := by
      intro i hi
      have he := hel i hi
      rw [List.getElem?_eq_getElem (by omega), Option.bind_eq_some_iff, Try.cells34] at he
      obtain ⟨cs', hcs', ht⟩ := he
      obtain ⟨d, rfl, hwt⟩ := open_deed ht
      obtain ⟨_, _, hc⟩ := World.cells?_some hcs'
      refine ⟨d, ?_, ?_⟩
      · have hsp : a.spot = none := by
          have he := hel 0 (by omega)
          rw [List.getElem?_eq_getElem (by omega), Option.bind_eq_some_iff, Try.cells34] at he
          obtain ⟨cs0, hcs0, _⟩ := he
          obtain ⟨_, hl0, hc0⟩ := World.cells?_some hcs0
          have q := hc0 0 (by omega)
          rw [Addr.add_add, List.getElem?_eq_getElem (by omega)] at q
          exact spot_of (by simpa using q)
        obtain ⟨b, off, sp⟩ := a
        simp only at hsp
        subst hsp
        refine ⟨b, off, rfl, fun o ho => ?_⟩
        have q := hc o (by omega)
        rw [add_n, add_n, List.getElem?_eq_getElem (show o < (dl.cs d).length from ho)] at q
        exact q
      · exact hwt
    have ⟨f, hf⟩ : ∃ f : Nat → D, ∀ i, i < len → (∃ b off, some a = some (⟨b, off, none⟩ : Addr) ∧ ∀ o (ho : o < 10), w.cell? ⟨b, off + i * 10 + o, none⟩ = some ((dl.cs (f i))[o]'ho)) ∧ DOk w (f i) := by
      refine ⟨fun i => if h : i < len then Classical.choose (each i h) else ⟨0, 0, ⟨#[]⟩, ⟨⟨0, 0, 0, 0, ⟨0, 0⟩, []⟩, none, 0⟩⟩, fun i hi => ?_⟩
      simp only [dif_pos hi]
      exact Classical.choose_spec (each i hi)
    refine ⟨some a, len, cap, (List.range len).map f, hcs, by simp, fun j hj => ?_, by simp; omega, fun d hd => ?_⟩
    · rw [List.length_map, List.length_range] at hj
      simp only [List.getElem_map, List.getElem_range]
      exact (hf j hj).1
    · obtain ⟨i, hi, rfl⟩ := List.mem_map.1 hd
      exact (hf i (List.mem_range.1 hi)).2

end
/-- Are deeds not too many, and too long? -/
def FewD (d : D) : Prop := d.y.x.v.length ≤ 10
def Few (l : List D) : Prop := l.length ≤ 60 ∧ ∀ d ∈ l, FewD d
set_option maxRecDepth 100000 in
set_option maxHeartbeats 2000000 in
theorem few_any (a : Option Addr) (cap : Nat) (l : List D) (w : World) (hl : l.length ≤ maxLen) (hd : AtL dl w a l) (hok : ∀ d ∈ l, DOk w d) :
    Calls Try.prog 6 #[.slice a l.length cap] w fun e w' => ∃ b : Bool, e = .returned (.int .i64 (if b then 1 else 0)) ∧ (b = true → Few l) ∧ w' = w := by
  by_cases h80 : 60 < l.length
  · go_enter Try.func6, Try.ntmps6
    go_wp2
    go_ret
    exact ⟨false, rfl, (fun h => by cases h), rfl⟩
  · have HOK := Hid_of hok
    have HD := Hid_of hd
    clear hok hd
    go_enter Try.func6, Try.ntmps6
    go_wp2
    go_loopw [3] (fun i wr => ∃ k : Nat, k ≤ l.length ∧ i = .int .i64 k ∧ wr = w ∧ Hid (∀ j (h : j < l.length), j < k → FewD l[j])) (fun i _ => l.length - (intOf i).toNat)
    case atStart => exact ⟨0, by omega, rfl, rfl, fun j h hj => by omega⟩
    case round =>
      obtain ⟨k, hk, rfl, rfl, HF⟩ := hrel
      by_cases hlt : k < l.length
      · have hki : (k : Int) < (l.length : Int) := by omega
        have ok := HOK.out l[k] (List.getElem_mem hlt)
        obtain ⟨b, off, rfl, c0, c1, c2, c3, c4, c5, c6, c7, c8, c9⟩ := AtL.getD HD.out k hlt
        have HN : Hid (FewD l[k] → ∀ j (h : j < l.length), j < k + 1 → FewD l[j]) := fun h j hj hjk => by
          rcases Nat.lt_or_ge j k with h' | h'
          · exact HF.out j hj h'
          · obtain rfl : j = k := by omega
            exact h
        have hsz : l[k].tx.size ≤ 9223372036854775807 := by have := ok.tx; unfold maxLen at this; omega
        have hvl : l[k].y.x.v.length ≤ 9223372036854775807 := by have h1 := ok.y.xl.le; have := ok.y.xl.mx; unfold maxLen at this; omega
        have HA := Hid_of ok.y.xl.at'
        have HT := Hid_of ok.y.sz
        obtain ⟨d, HDK⟩ : ∃ d, Hid (l[k] = d) := ⟨_, Hid_of rfl⟩
        rw [HDK.out] at c0 c1 c2 c3 c4 c5 c6 c7 c8 c9 HN hsz hvl HA HT
        clear ok HOK HF HD HDK
        obtain ⟨dk, dto, dv, ⟨⟨yk, yf, yt, ys, ⟨yi, yj⟩, dls⟩, da, dc⟩⟩ := d
        simp only at c0 c1 c2 c3 c4 c5 c6 c7 c8 c9 hsz hvl HA HT
        by_cases h7 : 5000 < dv.size
        · have hdd : decide ((5000 : Int) < (dv.size : Int)) = true := decide_eq_true (by omega)
          clear HN
          go_wp2
          go_ret
          exact ⟨false, rfl, (fun h => by cases h), rfl⟩
        · have hdd : decide ((5000 : Int) < (dv.size : Int)) = false := decide_eq_false (by omega)
          by_cases h8 : 10 < dls.length
          · have hde : decide ((10 : Int) < (dls.length : Int)) = true := decide_eq_true (by omega)
            clear HN
            go_wp2
            go_ret
            exact ⟨false, rfl, (fun h => by cases h), rfl⟩
          · have hde : decide ((10 : Int) < (dls.length : Int)) = false := decide_eq_false (by omega)
            have HN5 := Hid_of (HN.out (show dls.length ≤ 10 by omega))
            clear HN
            go_wp2_with fail
            go_loopw [4] (fun i wx => ∃ q : Nat, q ≤ dls.length ∧ i = .int .i64 q ∧ wx = wr) (fun i _ => dls.length - (intOf i).toNat)
            case atStart => exact ⟨0, by omega, rfl, rfl⟩
            case round =>
              obtain ⟨q, hq, rfl, rfl⟩ := hrel
              by_cases hlq : q < dls.length
              · have hqi : (q : Int) < (dls.length : Int) := by omega
                obtain ⟨bv, ov, rfl, x0, x1, x2, x3⟩ := HA.out.getV q hlq
                have hs3 : dls[q].v.size ≤ 9223372036854775807 := by have := HT.out dls[q] (List.getElem_mem hlq); unfold maxLen at this; omega
                generalize dls[q].v = s3 at *
                generalize dls[q].s = s0 at *
                generalize dls[q].b.i = s1 at *
                generalize dls[q].b.t = s2 at *
                by_cases h9 : 5000 < s3.size
                · have hdf : decide ((5000 : Int) < (s3.size : Int)) = true := decide_eq_true (by omega)
                  go_wp2
                  go_ret
                  exact ⟨false, rfl, (fun h => by cases h), rfl⟩
                · have hdf : decide ((5000 : Int) < (s3.size : Int)) = false := decide_eq_false (by omega)
                  by_cases h10 : 30 < s0
                  · have hdg : decide (30 < s0) = true := decide_eq_true h10
                    by_cases h11 : s0 < 1024
                    · have hdh : decide (s0 < 1024) = true := decide_eq_true h11
                      go_wp2
                      go_ret
                      exact ⟨false, rfl, (fun h => by cases h), rfl⟩
                    · have hdh : decide (s0 < 1024) = false := decide_eq_false h11
                      go_wp2
                      go_roundw
                      case rel => exact ⟨q + 1, by omega, by go_num, by first | rfl | trivial⟩
                      case measure => simp [intOf]; omega
                  · have hdg : decide (30 < s0) = false := decide_eq_false h10
                    go_wp2
                    go_roundw
                    case rel => exact ⟨q + 1, by omega, by go_num, by first | rfl | trivial⟩
                    case measure => simp [intOf]; omega
              · obtain rfl : q = dls.length := by omega
                go_wp2
                go_roundw
                case rel => exact ⟨k + 1, by omega, by go_num, by first | rfl | trivial, HN5.out⟩
                case measure => simp [intOf]; omega
      · have hkn : k = l.length := by omega
        subst hkn
        have HK : Hid (Few l) := ⟨by omega, fun d hd => by obtain ⟨i, hi, rfl⟩ := List.getElem_of_mem hd; exact HF.out i hi hi⟩
        clear HF
        go_wp2
        go_ret
        exact ⟨true, rfl, fun _ => HK.out, rfl⟩
end Go.Proofs.Ytfjlanhekheecaa
