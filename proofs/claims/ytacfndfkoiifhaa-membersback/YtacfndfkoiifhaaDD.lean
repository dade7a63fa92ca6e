/-
  Groups and deeds that came in; are they few.
-/
import Derived.Test.YtacfndfkoiifhaaAW
import Derived.SliceStrings
import Derived.ChangeOld
import Derived.OpenShut
import Derived.ShutString
import Derived.ProofKit
import Derived.SizedLaws
namespace Go.Proofs.Ytacfndfkoiifhaa
open Go.ChangeShapes Go.WideShapes Go.ChangeAt Go.RowKit
set_option linter.unusedVariables false
open Mb (S)

/-- A deed: its kind, two numbers, a mark. -/
structure D where
  k : Int
  a : Int
  b : Int
  now : Bool
def dl : Ly D := ⟨4, fun x => [.int .i64 x.k, .int .i64 x.a, .int .i64 x.b, .bool x.now], fun _ => rfl, fun x v h => by simp at h; rcases h with rfl | rfl | rfl | rfl <;> rfl, by decide⟩
theorem AtL.getD {w : World} {a : Option Addr} {l : List D} (h : AtL dl w a l) (j : Nat) (hj : j < l.length) : ∃ b off, a = some ⟨b, off, none⟩ ∧ w.cell? ⟨b, off + j * 4, none⟩ = some (.int .i64 (l[j]'hj).k) ∧ w.cell? ⟨b, off + j * 4 + 1, none⟩ = some (.int .i64 (l[j]'hj).a) ∧ w.cell? ⟨b, off + j * 4 + 2, none⟩ = some (.int .i64 (l[j]'hj).b) ∧ w.cell? ⟨b, off + j * 4 + 3, none⟩ = some (.bool (l[j]'hj).now) := by
  obtain ⟨b, off, e, h0⟩ := h j hj
  exact ⟨b, off, e, h0 0 (by decide), h0 1 (by decide), h0 2 (by decide), h0 3 (by decide)⟩
/-- A group that came in: servers and spares that lie somewhere. -/
structure Gr where
  a : Option Addr
  c : Nat
  l : List Int
  a2 : Option Addr
  c2 : Nat
  sp : List Int
abbrev gV (g : Gr) : Value := .agg #[.slice g.a g.l.length g.c, .slice g.a2 g.sp.length g.c2]
structure GOk (w : World) (g : Gr) : Prop where
  at1 : AtL il w g.a g.l
  at2 : AtL il w g.a2 g.sp
  m1 : g.l.length ≤ maxLen
  m2 : g.sp.length ≤ maxLen
  le1 : g.l.length ≤ g.c
  le2 : g.sp.length ≤ g.c2
theorem GOk.keep {w w' : World} {g : Gr} (h : GOk w g) (hb : Below w.heap.size w w') : GOk w' g := ⟨h.at1.keep hb, h.at2.keep hb, h.m1, h.m2, h.le1, h.le2⟩
theorem cell_lt {w : World} {b o : Nat} {v : Value} (h : w.cell? ⟨b, o, none⟩ = some v) : b < w.heap.size := by
  rcases Nat.lt_or_ge b w.heap.size with h' | h'
  · exact h'
  · have e : w.heap[b]? = none := Array.getElem?_eq_none h'
    unfold World.cell? at h
    simp [e] at h
theorem AtL.lt {α : Type} {Y : Ly α} {w : World} {a : Option Addr} {l : List α} (h : AtL Y w a l) (hl : 0 < l.length) : ∀ k, blk a k → k < w.heap.size := by
  rintro k ⟨off, s, rfl⟩
  obtain ⟨b, off', e, h0⟩ := h 0 hl
  cases e
  exact cell_lt (h0 0 Y.pos)
theorem own : ownKnob Try.prog.godebug = none := by kernel_rfl
theorem laidOut : laidOutB Try.prog = true := by kernel_rfl
theorem Try.cells3 : Try.prog.cellsOf 3 = 1 := by kernel_rfl
theorem Try.cells4 : Try.prog.cellsOf 4 = 1 := by kernel_rfl
theorem Try.cells22 : Try.prog.cellsOf 22 = 1 := by kernel_rfl
theorem Try.cells24 : Try.prog.cellsOf 24 = 2 := by kernel_rfl
theorem Try.cells36 : Try.prog.cellsOf 36 = 4 := by kernel_rfl
theorem spot_of {w : World} {a : Addr} {v : Value} (h : w.cell? (a.add 0) = some v) : a.spot = none := by
  have hs := World.cell?_spot h
  simpa [Addr.add] using hs
section
variable {H : Type} {enc : TypeId × Value → H} {w : World} {base : Nat} {spare : Nat → Bool} {held : Bool} {fuel : Nat}
theorem open_one {cs : List Value} {x : DataW H × List MemPlace} (h : DataW.trod enc Try.prog w base spare held fuel 3 cs = some x) : ∃ d : Int, cs = il.cs d := by
  obtain ⟨n0, e0, _, w0⟩ := DataW.trod_int Try.underlying3 h
  exact ⟨n0, e0⟩
set_option maxRecDepth 100000 in
theorem open_deed {cs : List Value} {x : DataW H × List MemPlace} (h : DataW.trod enc Try.prog w base spare held fuel 36 cs = some x) : ∃ d : D, cs = dl.cs d := by
  obtain ⟨xs, n, rfl, hx, hl, hxs, hf⟩ := DataW.trod_struct Try.underlying36 h
  rw [Try.cells36] at hl
  obtain ⟨c0, c1, c2, c3, rfl⟩ : ∃ c0 c1 c2 c3, cs = [c0, c1, c2, c3] := by
    match cs, hl with
    | [a, b, c, d], _ => exact ⟨a, b, c, d, rfl⟩
  have hxs2 : xs.length = 4 := hxs
  obtain ⟨x0, x1, x2, x3, rfl⟩ : ∃ x0 x1 x2 x3, xs = [x0, x1, x2, x3] := by
    match xs, hxs2 with
    | [a, b, c, d], _ => exact ⟨a, b, c, d, rfl⟩
  have f0 : DataW.trod enc Try.prog w base spare held n 3 [c0] = some x0 := by have := hf 0 _ rfl; simpa [Try.cells3] using this
  have f1 : DataW.trod enc Try.prog w base spare held n 3 [c1] = some x1 := by have := hf 1 _ rfl; simpa [Try.cells3] using this
  have f2 : DataW.trod enc Try.prog w base spare held n 3 [c2] = some x2 := by have := hf 2 _ rfl; simpa [Try.cells3] using this
  have f3 : DataW.trod enc Try.prog w base spare held n 4 [c3] = some x3 := by have := hf 3 _ rfl; simpa [Try.cells4] using this
  obtain ⟨n0, e0, _, w0⟩ := DataW.trod_int Try.underlying3 f0
  obtain ⟨n1, e1, _, w1⟩ := DataW.trod_int Try.underlying3 f1
  obtain ⟨n2, e2, _, w2⟩ := DataW.trod_int Try.underlying3 f2
  obtain ⟨b3, e3, _⟩ := DataW.trod_bool Try.underlying4 f3
  simp only [List.cons.injEq, and_true] at e0 e1 e2 e3
  subst e0 e1 e2 e3
  exact ⟨⟨n0, n1, n2, b3⟩, rfl⟩
set_option maxRecDepth 100000 in
theorem open_ints {cs : List Value} {x : DataW H × List MemPlace} (h : DataW.trod enc Try.prog w base spare held fuel 22 cs = some x) :
    ∃ a len cap, ∃ l : List Int, cs = [.slice a len cap] ∧ len = l.length ∧ AtL il w a l ∧ l.length ≤ maxLen ∧ l.length ≤ cap := by
  rcases DataW.trod_slice Try.underlying22 h with ⟨hcs, _⟩ | ⟨a, len, cap, elems, rest, n, _, hcs, hx, hb, hl, hm, hlen, hel, hsp, hns⟩
  · exact ⟨none, 0, 0, [], hcs, rfl, AtL.nil _ _, Nat.zero_le _, Nat.zero_le _⟩
  · have each : ∀ i, i < len → ∃ d : Int, ∃ b off, some a = some (⟨b, off, none⟩ : Addr) ∧ ∀ o (ho : o < 1), w.cell? ⟨b, off + i * 1 + o, none⟩ = some ((il.cs d)[o]'ho) := by
      intro i hi
      have he := hel i hi
      rw [List.getElem?_eq_getElem (by omega), Option.bind_eq_some_iff, Try.cells3] at he
      obtain ⟨cs', hcs', ht⟩ := he
      obtain ⟨d, rfl⟩ := open_one ht
      obtain ⟨_, _, hc⟩ := World.cells?_some hcs'
      refine ⟨d, ?_⟩
      have hsp : a.spot = none := by
        have he := hel 0 (by omega)
        rw [List.getElem?_eq_getElem (by omega), Option.bind_eq_some_iff, Try.cells3] at he
        obtain ⟨cs0, hcs0, _⟩ := he
        obtain ⟨_, hl0, hc0⟩ := World.cells?_some hcs0
        have q := hc0 0 (by omega)
        rw [Addr.add_add, List.getElem?_eq_getElem (by omega)] at q
        exact spot_of (by simpa using q)
      obtain ⟨b, off, sp⟩ := a
      simp only at hsp
      subst hsp
      refine ⟨b, off, rfl, fun o ho => ?_⟩
      have q := hc o (by omega)
      rw [add_n, add_n, List.getElem?_eq_getElem (show o < (il.cs d).length from ho)] at q
      exact q
    have ⟨f, hf⟩ : ∃ f : Nat → Int, ∀ i, i < len → ∃ b off, some a = some (⟨b, off, none⟩ : Addr) ∧ ∀ o (ho : o < 1), w.cell? ⟨b, off + i * 1 + o, none⟩ = some ((il.cs (f i))[o]'ho) := by
      refine ⟨fun i => if h : i < len then Classical.choose (each i h) else 0, fun i hi => ?_⟩
      simp only [dif_pos hi]
      exact Classical.choose_spec (each i hi)
    refine ⟨some a, len, cap, (List.range len).map f, hcs, by simp, fun j hj => ?_, by simp; omega, by simp; omega⟩
    rw [List.length_map, List.length_range] at hj
    simp only [List.getElem_map, List.getElem_range]
    exact hf j hj
set_option maxRecDepth 100000 in
theorem open_deeds {cs : List Value} {x : DataW H × List MemPlace} (h : DataW.trod enc Try.prog w base spare held fuel 25 cs = some x) :
    ∃ a len cap, ∃ l : List D, cs = [.slice a len cap] ∧ len = l.length ∧ AtL dl w a l ∧ l.length ≤ maxLen ∧ l.length ≤ cap := by
  rcases DataW.trod_slice Try.underlying25 h with ⟨hcs, _⟩ | ⟨a, len, cap, elems, rest, n, _, hcs, hx, hb, hl, hm, hlen, hel, hsp, hns⟩
  · exact ⟨none, 0, 0, [], hcs, rfl, AtL.nil _ _, Nat.zero_le _, Nat.zero_le _⟩
  · have each : ∀ i, i < len → ∃ d : D, ∃ b off, some a = some (⟨b, off, none⟩ : Addr) ∧ ∀ o (ho : o < 4), w.cell? ⟨b, off + i * 4 + o, none⟩ = some ((dl.cs d)[o]'ho) := by
      intro i hi
      have he := hel i hi
      rw [List.getElem?_eq_getElem (by omega), Option.bind_eq_some_iff, Try.cells36] at he
      obtain ⟨cs', hcs', ht⟩ := he
      obtain ⟨d, rfl⟩ := open_deed ht
      obtain ⟨_, _, hc⟩ := World.cells?_some hcs'
      refine ⟨d, ?_⟩
      have hsp : a.spot = none := by
        have he := hel 0 (by omega)
        rw [List.getElem?_eq_getElem (by omega), Option.bind_eq_some_iff, Try.cells36] at he
        obtain ⟨cs0, hcs0, _⟩ := he
        obtain ⟨_, hl0, hc0⟩ := World.cells?_some hcs0
        have q := hc0 0 (by omega)
        rw [Addr.add_add, List.getElem?_eq_getElem (by omega)] at q
        exact spot_of (by simpa using q)
      obtain ⟨b, off, sp⟩ := a
      simp only at hsp
      subst hsp
      refine ⟨b, off, rfl, fun o ho => ?_⟩
      have q := hc o (by omega)
      rw [add_n, add_n, List.getElem?_eq_getElem (show o < (dl.cs d).length from ho)] at q
      exact q
    have ⟨f, hf⟩ : ∃ f : Nat → D, ∀ i, i < len → ∃ b off, some a = some (⟨b, off, none⟩ : Addr) ∧ ∀ o (ho : o < 4), w.cell? ⟨b, off + i * 4 + o, none⟩ = some ((dl.cs (f i))[o]'ho) := by
      refine ⟨fun i => if h : i < len then Classical.choose (each i h) else ⟨0, 0, 0, false⟩, fun i hi => ?_⟩
      simp only [dif_pos hi]
      exact Classical.choose_spec (each i hi)
    refine ⟨some a, len, cap, (List.range len).map f, hcs, by simp, fun j hj => ?_, by simp; omega, by simp; omega⟩
    rw [List.length_map, List.length_range] at hj
    simp only [List.getElem_map, List.getElem_range]
    exact hf j hj
set_option maxRecDepth 100000 in
theorem open_group {cs : List Value} {x : DataW H × List MemPlace} (h : DataW.trod enc Try.prog w base spare held fuel 24 cs = some x) : ∃ g : Gr, cs = [.slice g.a g.l.length g.c, .slice g.a2 g.sp.length g.c2] ∧ GOk w g := by
  obtain ⟨xs, n, rfl, hx, hl, hxs, hf⟩ := DataW.trod_struct Try.underlying24 h
  rw [Try.cells24] at hl
  obtain ⟨c0, c1, rfl⟩ : ∃ c0 c1, cs = [c0, c1] := by
    match cs, hl with
    | [a, b], _ => exact ⟨a, b, rfl⟩
  have hxs2 : xs.length = 2 := hxs
  obtain ⟨x0, x1, rfl⟩ : ∃ x0 x1, xs = [x0, x1] := by
    match xs, hxs2 with
    | [a, b], _ => exact ⟨a, b, rfl⟩
  have f0 : DataW.trod enc Try.prog w base spare held n 22 [c0] = some x0 := by have := hf 0 _ rfl; simpa [Try.cells22] using this
  have f1 : DataW.trod enc Try.prog w base spare held n 22 [c1] = some x1 := by have := hf 1 _ rfl; simpa [Try.cells22] using this
  obtain ⟨a, len, cap, l, e0, rfl, h1, h2, h3⟩ := open_ints f0
  obtain ⟨a', len', cap', l', e1, rfl, h1', h2', h3'⟩ := open_ints f1
  simp only [List.cons.injEq, and_true] at e0 e1
  subst e0 e1
  exact ⟨⟨a, cap, l, a', cap', l'⟩, rfl, h1, h1', h2, h2', h3, h3'⟩
end
theorem row2c {w : World} {k : Nat} {v0 v1 : Value} {t : TypeId} (h : w.heap[k]? = some (.cells #[v0, v1] t (0, 0))) : w.cell? ⟨k, 0, none⟩ = some v0 ∧ w.cell? ⟨k, 1, none⟩ = some v1 :=
  ⟨by rw [cell_of_row w k 0 _ _ _ h]; rfl, by rw [cell_of_row w k 1 _ _ _ h]; rfl⟩
/-- Few enough. -/
def few (g : Gr) (n : Nat) : Bool := decide (g.l.length ≤ 20) && decide (g.sp.length ≤ 80) && decide (n ≤ 60)
def fewN (g : Gr) (n : Nat) : Int := if few g n then 1 else 0
theorem few_of {g : Gr} {n : Nat} (h : few g n = true) : g.l.length ≤ 20 ∧ g.sp.length ≤ 80 ∧ n ≤ 60 := by simpa [few, and_assoc] using h
set_option maxHeartbeats 400000 in
theorem few_any (g : Gr) (a : Option Addr) (n c : Nat) (w : World) (hn : n ≤ maxLen) (h1 : g.l.length ≤ maxLen) (h2 : g.sp.length ≤ maxLen) : Calls Try.prog 8 #[gV g, .slice a n c] w fun e w' => e = .returned (.int .i64 (fewN g n)) ∧ Below w.heap.size w w' := by
  obtain ⟨a1, c1, l, a2, c2, sp⟩ := g
  simp only at h1 h2
  have HB := Hid_of (bel1 w (.cells #[.slice a1 l.length c1, .slice a2 sp.length c2] 24))
  by_cases k1 : l.length ≤ 20
  · have d1 : decide ((20 : Int) < (l.length : Int)) = false := decide_eq_false (by omega)
    by_cases k2 : sp.length ≤ 80
    · have d2 : decide ((80 : Int) < (sp.length : Int)) = false := decide_eq_false (by omega)
      by_cases k3 : n ≤ 60
      · have d3 : decide ((60 : Int) < (n : Int)) = false := decide_eq_false (by omega)
        rw [show fewN ⟨a1, c1, l, a2, c2, sp⟩ n = 1 by simp [fewN, few, k1, k2, k3]]
        go_enter Try.func8, Try.ntmps8
        go_wp2
        go_ret
        exact ⟨rfl, HB.out⟩
      · have d3 : decide ((60 : Int) < (n : Int)) = true := decide_eq_true (by omega)
        rw [show fewN ⟨a1, c1, l, a2, c2, sp⟩ n = 0 by simp [fewN, few, k3]]
        go_enter Try.func8, Try.ntmps8
        go_wp2
        go_ret
        exact ⟨rfl, HB.out⟩
    · have d2 : decide ((80 : Int) < (sp.length : Int)) = true := decide_eq_true (by omega)
      rw [show fewN ⟨a1, c1, l, a2, c2, sp⟩ n = 0 by simp [fewN, few, k2]]
      go_enter Try.func8, Try.ntmps8
      go_wp2
      go_ret
      exact ⟨rfl, HB.out⟩
  · have d1 : decide ((20 : Int) < (l.length : Int)) = true := decide_eq_true (by omega)
    rw [show fewN ⟨a1, c1, l, a2, c2, sp⟩ n = 0 by simp [fewN, few, k1]]
    go_enter Try.func8, Try.ntmps8
    go_wp2
    go_ret
    exact ⟨rfl, HB.out⟩
end Go.Proofs.Ytacfndfkoiifhaa
