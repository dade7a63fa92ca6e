/-
  Ballots and votes that came in.
-/
import Derived.Test.YtkohbjpinoonmaaA
import Derived.SliceStrings
import Derived.ChangeOld
import Derived.OpenShut
import Derived.ShutString
import Derived.ProofKit
import Derived.SizedLaws
namespace Go.Proofs.Ytkohbjpinoonmaa
open Go.ChangeShapes Go.WideShapes Go.ChangeAt Go.RowKit
set_option linter.unusedVariables false
open M (E V)

theorem own : ownKnob Try.prog.godebug = none := by kernel_rfl
theorem laidOut : laidOutB Try.prog = true := by kernel_rfl
theorem Try.cells3 : Try.prog.cellsOf 3 = 1 := by kernel_rfl
theorem Try.cells9 : Try.prog.cellsOf 9 = 1 := by kernel_rfl
theorem Try.cells23 : Try.prog.cellsOf 23 = 2 := by kernel_rfl
theorem Try.cells33 : Try.prog.cellsOf 33 = 4 := by kernel_rfl
theorem spot_of {w : World} {a : Addr} {v : Value} (h : w.cell? (a.add 0) = some v) : a.spot = none := by
  have hs := World.cell?_spot h
  simpa [Addr.add] using hs
section
variable {H : Type} {enc : TypeId × Value → H} {w : World} {base : Nat} {spare : Nat → Bool} {held : Bool} {fuel : Nat}
set_option maxRecDepth 100000 in
theorem open_ballot {cs : List Value} {x : DataW H × List MemPlace} (h : DataW.trod enc Try.prog w base spare held fuel 23 cs = some x) : ∃ d : E, cs = bl.cs d ∧ True := by
  obtain ⟨xs, n, rfl, hx, hl, hxs, hf⟩ := DataW.trod_struct Try.underlying23 h
  rw [Try.cells23] at hl
  obtain ⟨c0, c1, rfl⟩ : ∃ c0 c1, cs = [c0, c1] := by
    match cs, hl with
    | [a, b], _ => exact ⟨a, b, rfl⟩
  have hxs2 : xs.length = 2 := hxs
  obtain ⟨x0, x1, rfl⟩ : ∃ x0 x1, xs = [x0, x1] := by
    match xs, hxs2 with
    | [a, b], _ => exact ⟨a, b, rfl⟩
  have f0 : DataW.trod enc Try.prog w base spare held n 3 [c0] = some x0 := by have := hf 0 _ rfl; simpa [Try.cells3] using this
  have f1 : DataW.trod enc Try.prog w base spare held n 3 [c1] = some x1 := by have := hf 1 _ rfl; simpa [Try.cells3] using this
  obtain ⟨n0, e0, _, w0⟩ := DataW.trod_int Try.underlying3 f0
  obtain ⟨n1, e1, _, w1⟩ := DataW.trod_int Try.underlying3 f1
  simp only [List.cons.injEq, and_true] at e0 e1
  subst e0 e1
  exact ⟨⟨n0, n1⟩, rfl, trivial⟩
set_option maxRecDepth 100000 in
theorem open_vote {cs : List Value} {x : DataW H × List MemPlace} (h : DataW.trod enc Try.prog w base spare held fuel 33 cs = some x) : ∃ d : V, cs = vl.cs d ∧ d.v.size ∈ x.1.weights Try.prog 33 := by
  obtain ⟨xs, n, rfl, hx, hl, hxs, hf⟩ := DataW.trod_struct Try.underlying33 h
  rw [Try.cells33] at hl
  obtain ⟨c0, c1, c2, c3, rfl⟩ : ∃ c0 c1 c2 c3, cs = [c0, c1, c2, c3] := by
    match cs, hl with
    | [a, b, c, d], _ => exact ⟨a, b, c, d, rfl⟩
  have hxs2 : xs.length = 3 := hxs
  obtain ⟨x0, x1, x2, rfl⟩ : ∃ x0 x1 x2, xs = [x0, x1, x2] := by
    match xs, hxs2 with
    | [a, b, c], _ => exact ⟨a, b, c, rfl⟩
  have f0 : DataW.trod enc Try.prog w base spare held n 3 [c0] = some x0 := by have := hf 0 _ rfl; simpa [Try.cells3] using this
  have f1 : DataW.trod enc Try.prog w base spare held n 23 [c1, c2] = some x1 := by have := hf 1 _ rfl; simpa [Try.cells23] using this
  have f2 : DataW.trod enc Try.prog w base spare held n 9 [c3] = some x2 := by have := hf 2 _ rfl; simpa [Try.cells9] using this
  obtain ⟨n0, e0, _, w0⟩ := DataW.trod_int Try.underlying3 f0
  obtain ⟨d, e1, _⟩ := open_ballot f1
  obtain ⟨s3, e3, g3, w3⟩ := DataW.trod_string Try.underlying9 f2
  have e1' : [c1, c2] = [.int .i64 d.i, .int .i64 d.t] := e1
  simp only [List.cons.injEq, and_true] at e0 e1' e3
  obtain ⟨rfl, rfl⟩ := e1'
  subst e0 e3
  refine ⟨⟨n0, d, s3⟩, rfl, ?_⟩
  rw [hx, g3]
  have hsz : s3.data.toList.length = s3.size := Array.length_toList
  simp only [DataW.weights, Try.underlying33, List.map_cons, List.map_nil, DataW.weightsEach, List.mem_append]
  exact Or.inr (Or.inr (Or.inl (List.mem_singleton.2 hsz.symm)))
theorem mem_all {P : Program} {e : TypeId} {n : Nat} : ∀ {ds : List (DataW H)} {d : DataW H}, d ∈ ds → n ∈ d.weights P e → n ∈ DataW.weightsAll P e ds
  | [], _, h, _ => by simp at h
  | d0 :: r, d, h, hn => by
    rw [DataW.weightsAll, List.mem_append]
    rw [List.mem_cons] at h
    rcases h with rfl | h
    · exact .inl hn
    · exact .inr (mem_all h hn)
set_option maxRecDepth 100000 in
theorem open_ballots {cs : List Value} {x : DataW H × List MemPlace} (h : DataW.trod enc Try.prog w base spare held fuel 30 cs = some x) :
    ∃ a len cap, ∃ l : List E, cs = [.slice a len cap] ∧ len = l.length ∧ AtL bl w a l ∧ l.length ≤ maxLen ∧ ∀ d ∈ l, True := by
  rcases DataW.trod_slice Try.underlying30 h with ⟨hcs, _⟩ | ⟨a, len, cap, elems, rest, n, _, hcs, hx, hb, hl, hm, hlen, hel, hsp, hns⟩
  · exact ⟨none, 0, 0, [], hcs, rfl, AtL.nil _ _, Nat.zero_le _, by simp⟩
  · have each : ∀ i, i < len → ∃ d : E, (∃ b off, some a = some (⟨b, off, none⟩ : Addr) ∧ ∀ o (ho : o < 2), w.cell? ⟨b, off + i * 2 + o, none⟩ = some ((bl.cs d)[o]'ho)) ∧ True := by
      intro i hi
      have he := hel i hi
      rw [List.getElem?_eq_getElem (by omega), Option.bind_eq_some_iff, Try.cells23] at he
      obtain ⟨cs', hcs', ht⟩ := he
      obtain ⟨d, rfl, hwt⟩ := open_ballot ht
      obtain ⟨_, _, hc⟩ := World.cells?_some hcs'
      refine ⟨d, ?_, ?_⟩
      · have hsp : a.spot = none := by
          have he := hel 0 (by omega)
          rw [List.getElem?_eq_getElem (by omega), Option.bind_eq_some_iff, Try.cells23] at he
          obtain ⟨cs0, hcs0, _⟩ := he
          obtain ⟨_, hl0, hc0⟩ := World.cells?_some hcs0
          have q := hc0 0 (by omega)
          rw [Addr.add_add, List.getElem?_eq_getElem (by omega)] at q
          exact spot_of (by simpa using q)
        obtain ⟨b, off, sp⟩ := a
        simp only at hsp
        subst hsp
        refine ⟨b, off, rfl, fun o ho => ?_⟩
        have q := hc o (by omega)
        rw [add_n, add_n, List.getElem?_eq_getElem (show o < (bl.cs d).length from ho)] at q
        exact q
      · trivial
    have ⟨f, hf⟩ : ∃ f : Nat → E, ∀ i, i < len → (∃ b off, some a = some (⟨b, off, none⟩ : Addr) ∧ ∀ o (ho : o < 2), w.cell? ⟨b, off + i * 2 + o, none⟩ = some ((bl.cs (f i))[o]'ho)) ∧ True := by
      refine ⟨fun i => if h : i < len then Classical.choose (each i h) else ⟨0, 0⟩, fun i hi => ?_⟩
      simp only [dif_pos hi]
      exact Classical.choose_spec (each i hi)
    refine ⟨some a, len, cap, (List.range len).map f, hcs, by simp, fun j hj => ?_, by simp; omega, fun d hd => ?_⟩
    · rw [List.length_map, List.length_range] at hj
      simp only [List.getElem_map, List.getElem_range]
      exact (hf j hj).1
    · obtain ⟨i, hi, rfl⟩ := List.mem_map.1 hd
      exact (hf i (List.mem_range.1 hi)).2
set_option maxRecDepth 100000 in
theorem open_votes {cs : List Value} {x : DataW H × List MemPlace} (h : DataW.trod enc Try.prog w base spare held fuel 31 cs = some x) :
    ∃ a len cap, ∃ l : List V, cs = [.slice a len cap] ∧ len = l.length ∧ AtL vl w a l ∧ l.length ≤ maxLen ∧ ∀ d ∈ l, d.v.size ∈ x.1.weights Try.prog 31 := by
  rcases DataW.trod_slice Try.underlying31 h with ⟨hcs, _⟩ | ⟨a, len, cap, elems, rest, n, _, hcs, hx, hb, hl, hm, hlen, hel, hsp, hns⟩
  · exact ⟨none, 0, 0, [], hcs, rfl, AtL.nil _ _, Nat.zero_le _, by simp⟩
  · have each : ∀ i, i < len → ∃ d : V, (∃ b off, some a = some (⟨b, off, none⟩ : Addr) ∧ ∀ o (ho : o < 4), w.cell? ⟨b, off + i * 4 + o, none⟩ = some ((vl.cs d)[o]'ho)) ∧ d.v.size ∈ x.1.weights Try.prog 31 := by
      intro i hi
      have he := hel i hi
      rw [List.getElem?_eq_getElem (by omega), Option.bind_eq_some_iff, Try.cells33] at he
      obtain ⟨cs', hcs', ht⟩ := he
      obtain ⟨d, rfl, hwt⟩ := open_vote ht
      obtain ⟨_, _, hc⟩ := World.cells?_some hcs'
      refine ⟨d, ?_, ?_⟩
      · have hsp : a.spot = none := by
          have he := hel 0 (by omega)
          rw [List.getElem?_eq_getElem (by omega), Option.bind_eq_some_iff, Try.cells33] at he
          obtain ⟨cs0, hcs0, _⟩ := he
          obtain ⟨_, hl0, hc0⟩ := World.cells?_some hcs0
          have q := hc0 0 (by omega)
          rw [Addr.add_add, List.getElem?_eq_getElem (by omega)] at q
          exact spot_of (by simpa using q)
        obtain ⟨b, off, sp⟩ := a
        simp only at hsp
        subst hsp
        refine ⟨b, off, rfl, fun o ho => ?_⟩
        have q := hc o (by omega)
        rw [add_n, add_n, List.getElem?_eq_getElem (show o < (vl.cs d).length from ho)] at q
        exact q
      · rw [hx]
        simp only [DataW.weights, Try.underlying31, List.mem_cons, List.mem_append]
        exact .inr (.inl (mem_all (List.mem_map.2 ⟨_, List.getElem_mem (by omega), rfl⟩) hwt))
    have ⟨f, hf⟩ : ∃ f : Nat → V, ∀ i, i < len → (∃ b off, some a = some (⟨b, off, none⟩ : Addr) ∧ ∀ o (ho : o < 4), w.cell? ⟨b, off + i * 4 + o, none⟩ = some ((vl.cs (f i))[o]'ho)) ∧ (f i).v.size ∈ x.1.weights Try.prog 31 := by
      refine ⟨fun i => if h : i < len then Classical.choose (each i h) else ⟨0, ⟨0, 0⟩, ⟨#[]⟩⟩, fun i hi => ?_⟩
      simp only [dif_pos hi]
      exact Classical.choose_spec (each i hi)
    refine ⟨some a, len, cap, (List.range len).map f, hcs, by simp, fun j hj => ?_, by simp; omega, fun d hd => ?_⟩
    · rw [List.length_map, List.length_range] at hj
      simp only [List.getElem_map, List.getElem_range]
      exact (hf j hj).1
    · obtain ⟨i, hi, rfl⟩ := List.mem_map.1 hd
      exact (hf i (List.mem_range.1 hi)).2
end
end Go.Proofs.Ytkohbjpinoonmaa
