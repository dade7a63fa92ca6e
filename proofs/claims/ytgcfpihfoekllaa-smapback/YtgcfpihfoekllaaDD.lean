/- Deeds that came in; are they few. -/
import Derived.Test.YtgcfpihfoekllaaAW
import Derived.SliceStrings
import Derived.ChangeOld
import Derived.OpenShut
import Derived.ShutString
import Derived.ProofKit
import Derived.SizedLaws

namespace Go.Proofs.Ytgcfpihfoekllaa

open Go.RowKit

set_option linter.unusedVariables false

open Go.ChangeShapes Go.WideShapes Go.ChangeAt
open Sm (S)

/-- A deed: its kind, three numbers, servers that lie somewhere. -/
structure D where
  k : Int
  a : Int
  b : Int
  c : Int
  sa : Option Addr
  sc : Nat
  l : List Int
abbrev dV (x : D) : Value := .agg #[.int .i64 x.k, .int .i64 x.a, .int .i64 x.b, .int .i64 x.c, .slice x.sa x.l.length x.sc]
def dl : Ly D := ⟨5, fun x => [.int .i64 x.k, .int .i64 x.a, .int .i64 x.b, .int .i64 x.c, .slice x.sa x.l.length x.sc], fun _ => rfl, fun x v h => by simp at h; rcases h with rfl | rfl | rfl | rfl | rfl <;> rfl, by decide⟩
structure DOk (w : World) (d : D) : Prop where
  at' : AtL il w d.sa d.l
  mx : d.l.length ≤ maxLen
  le : d.l.length ≤ d.sc
  bd : d.b ≤ 9223372036854775807
theorem DOk.keep {w w' : World} {d : D} (h : DOk w d) (hb : Below w.heap.size w w') : DOk w' d := ⟨h.at'.keep hb, h.mx, h.le, h.bd⟩
theorem AtL.getD {w : World} {a : Option Addr} {l : List D} (h : AtL dl w a l) (j : Nat) (hj : j < l.length) : ∃ b off, a = some ⟨b, off, none⟩ ∧ w.cell? ⟨b, off + j * 5, none⟩ = some (.int .i64 (l[j]'hj).k) ∧ w.cell? ⟨b, off + j * 5 + 1, none⟩ = some (.int .i64 (l[j]'hj).a) ∧ w.cell? ⟨b, off + j * 5 + 2, none⟩ = some (.int .i64 (l[j]'hj).b) ∧ w.cell? ⟨b, off + j * 5 + 3, none⟩ = some (.int .i64 (l[j]'hj).c) ∧ w.cell? ⟨b, off + j * 5 + 4, none⟩ = some (.slice (l[j]'hj).sa (l[j]'hj).l.length (l[j]'hj).sc) := by
  obtain ⟨b, off, e, h0⟩ := h j hj
  exact ⟨b, off, e, h0 0 (by decide), h0 1 (by decide), h0 2 (by decide), h0 3 (by decide), h0 4 (by decide)⟩
theorem wf_i64 {a : Int} (h : (Lit.int .i64 a).wf = true) : -9223372036854775808 ≤ a ∧ a ≤ 9223372036854775807 := by
  simp [Lit.wf, IntKind.min, IntKind.max, IntKind.bits, IntKind.signed] at h
  omega
theorem own : ownKnob Try.prog.godebug = none := by kernel_rfl
theorem laidOut : laidOutB Try.prog = true := by kernel_rfl
theorem Try.cells3 : Try.prog.cellsOf 3 = 1 := by kernel_rfl
theorem Try.cells30 : Try.prog.cellsOf 30 = 1 := by kernel_rfl
theorem Try.cells32 : Try.prog.cellsOf 32 = 5 := by kernel_rfl
theorem spot_of {w : World} {a : Addr} {v : Value} (h : w.cell? (a.add 0) = some v) : a.spot = none := by
  have hs := World.cell?_spot h
  simpa [Addr.add] using hs
section
variable {H : Type} {enc : TypeId × Value → H} {w : World} {base : Nat} {spare : Nat → Bool} {held : Bool} {fuel : Nat}
theorem open_one {cs : List Value} {x : DataW H × List MemPlace} (h : DataW.trod enc Try.prog w base spare held fuel 3 cs = some x) : ∃ d : Int, cs = il.cs d := by
  obtain ⟨n0, e0, _, w0⟩ := DataW.trod_int Try.underlying3 h
  exact ⟨n0, e0⟩
set_option maxRecDepth 100000 in
theorem open_ints {cs : List Value} {x : DataW H × List MemPlace} (h : DataW.trod enc Try.prog w base spare held fuel 30 cs = some x) :
    ∃ a len cap, ∃ l : List Int, cs = [.slice a len cap] ∧ len = l.length ∧ AtL il w a l ∧ l.length ≤ maxLen ∧ l.length ≤ cap := by
  rcases DataW.trod_slice Try.underlying30 h with ⟨hcs, _⟩ | ⟨a, len, cap, elems, rest, n, _, hcs, hx, hb, hl, hm, hlen, hel, hsp, hns⟩
  · exact ⟨none, 0, 0, [], hcs, rfl, AtL.nil _ _, Nat.zero_le _, Nat.zero_le _⟩
  · have each : ∀ i, i < len → ∃ d : Int, ∃ b off, some a = some (⟨b, off, none⟩ : Addr) ∧ ∀ o (ho : o < 1), w.cell? ⟨b, off + i * 1 + o, none⟩ = some ((il.cs d)[o]'ho) := by
      intro i hi
      have he := hel i hi
      rw [List.getElem?_eq_getElem (by omega), Option.bind_eq_some_iff, Try.cells3] at he
      obtain ⟨cs', hcs', ht⟩ := he
      obtain ⟨d, rfl⟩ := open_one ht
      obtain ⟨_, _, hc⟩ := World.cells?_some hcs'
      refine ⟨d, ?_⟩
      have hsp : a.spot = none := by
        have he := hel 0 (by omega)
        rw [List.getElem?_eq_getElem (by omega), Option.bind_eq_some_iff, Try.cells3] at he
        obtain ⟨cs0, hcs0, _⟩ := he
        obtain ⟨_, hl0, hc0⟩ := World.cells?_some hcs0
        have q := hc0 0 (by omega)
        rw [Addr.add_add, List.getElem?_eq_getElem (by omega)] at q
        exact spot_of (by simpa using q)
      obtain ⟨b, off, sp⟩ := a
      simp only at hsp
      subst hsp
      refine ⟨b, off, rfl, fun o ho => ?_⟩
      have q := hc o (by omega)
      rw [add_n, add_n, List.getElem?_eq_getElem (show o < (il.cs d).length from ho)] at q
      exact q
    have ⟨f, hf⟩ : ∃ f : Nat → Int, ∀ i, i < len → ∃ b off, some a = some (⟨b, off, none⟩ : Addr) ∧ ∀ o (ho : o < 1), w.cell? ⟨b, off + i * 1 + o, none⟩ = some ((il.cs (f i))[o]'ho) := by
      refine ⟨fun i => if h : i < len then Classical.choose (each i h) else 0, fun i hi => ?_⟩
      simp only [dif_pos hi]
      exact Classical.choose_spec (each i hi)
    refine ⟨some a, len, cap, (List.range len).map f, hcs, by simp, fun j hj => ?_, by simp; omega, by simp; omega⟩
    rw [List.length_map, List.length_range] at hj
    simp only [List.getElem_map, List.getElem_range]
    exact hf j hj
set_option maxRecDepth 100000 in
theorem open_deed {cs : List Value} {x : DataW H × List MemPlace} (h : DataW.trod enc Try.prog w base spare held fuel 32 cs = some x) : ∃ d : D, cs = dl.cs d ∧ DOk w d := by
  obtain ⟨xs, n, rfl, hx, hl, hxs, hf⟩ := DataW.trod_struct Try.underlying32 h
  rw [Try.cells32] at hl
  obtain ⟨c0, c1, c2, c3, c4, rfl⟩ : ∃ c0 c1 c2 c3 c4, cs = [c0, c1, c2, c3, c4] := by
    match cs, hl with
    | [a, b, c, d, e], _ => exact ⟨a, b, c, d, e, rfl⟩
  have hxs2 : xs.length = 5 := hxs
  obtain ⟨x0, x1, x2, x3, x4, rfl⟩ : ∃ x0 x1 x2 x3 x4, xs = [x0, x1, x2, x3, x4] := by
    match xs, hxs2 with
    | [a, b, c, d, e], _ => exact ⟨a, b, c, d, e, rfl⟩
  have f0 : DataW.trod enc Try.prog w base spare held n 3 [c0] = some x0 := by have := hf 0 _ rfl; simpa [Try.cells3] using this
  have f1 : DataW.trod enc Try.prog w base spare held n 3 [c1] = some x1 := by have := hf 1 _ rfl; simpa [Try.cells3] using this
  have f2 : DataW.trod enc Try.prog w base spare held n 3 [c2] = some x2 := by have := hf 2 _ rfl; simpa [Try.cells3] using this
  have f3 : DataW.trod enc Try.prog w base spare held n 3 [c3] = some x3 := by have := hf 3 _ rfl; simpa [Try.cells3] using this
  have f4 : DataW.trod enc Try.prog w base spare held n 30 [c4] = some x4 := by have := hf 4 _ rfl; simpa [Try.cells30] using this
  obtain ⟨n0, e0, _, w0⟩ := DataW.trod_int Try.underlying3 f0
  obtain ⟨n1, e1, _, w1⟩ := DataW.trod_int Try.underlying3 f1
  obtain ⟨n2, e2, _, w2⟩ := DataW.trod_int Try.underlying3 f2
  obtain ⟨n3, e3, _, w3⟩ := DataW.trod_int Try.underlying3 f3
  obtain ⟨a, len, cap, l, e4, rfl, h1, h2, h3⟩ := open_ints f4
  simp only [List.cons.injEq, and_true] at e0 e1 e2 e3 e4
  subst e0 e1 e2 e3 e4
  exact ⟨⟨n0, n1, n2, n3, a, cap, l⟩, rfl, h1, h2, h3, (wf_i64 w2).2⟩
set_option maxRecDepth 100000 in
theorem open_deeds {cs : List Value} {x : DataW H × List MemPlace} (h : DataW.trod enc Try.prog w base spare held fuel 22 cs = some x) :
    ∃ a len cap, ∃ l : List D, cs = [.slice a len cap] ∧ len = l.length ∧ AtL dl w a l ∧ l.length ≤ maxLen ∧ ∀ d ∈ l, DOk w d := by
  rcases DataW.trod_slice Try.underlying22 h with ⟨hcs, _⟩ | ⟨a, len, cap, elems, rest, n, _, hcs, hx, hb, hl, hm, hlen, hel, hsp, hns⟩
  · exact ⟨none, 0, 0, [], hcs, rfl, AtL.nil _ _, Nat.zero_le _, by simp⟩
  · have each : ∀ i, i < len → ∃ d : D, (∃ b off, some a = some (⟨b, off, none⟩ : Addr) ∧ ∀ o (ho : o < 5), w.cell? ⟨b, off + i * 5 + o, none⟩ = some ((dl.cs d)[o]'ho)) ∧ DOk w d := by
      intro i hi
      have he := hel i hi
      rw [List.getElem?_eq_getElem (by omega), Option.bind_eq_some_iff, Try.cells32] at he
      obtain ⟨cs', hcs', ht⟩ := he
      obtain ⟨d, rfl, hwt⟩ := open_deed ht
      obtain ⟨_, _, hc⟩ := World.cells?_some hcs'
      refine ⟨d, ?_, ?_⟩
      · have hsp : a.spot = none := by
          have he := hel 0 (by omega)
          rw [List.getElem?_eq_getElem (by omega), Option.bind_eq_some_iff, Try.cells32] at he
          obtain ⟨cs0, hcs0, _⟩ := he
          obtain ⟨_, hl0, hc0⟩ := World.cells?_some hcs0
          have q := hc0 0 (by omega)
          rw [Addr.add_add, List.getElem?_eq_getElem (by omega)] at q
          exact spot_of (by simpa using q)
        obtain ⟨b, off, sp⟩ := a
        simp only at hsp
        subst hsp
        refine ⟨b, off, rfl, fun o ho => ?_⟩
        have q := hc o (by omega)
        rw [add_n, add_n, List.getElem?_eq_getElem (show o < (dl.cs d).length from ho)] at q
        exact q
      · exact hwt
    have ⟨f, hf⟩ : ∃ f : Nat → D, ∀ i, i < len → (∃ b off, some a = some (⟨b, off, none⟩ : Addr) ∧ ∀ o (ho : o < 5), w.cell? ⟨b, off + i * 5 + o, none⟩ = some ((dl.cs (f i))[o]'ho)) ∧ DOk w (f i) := by
      refine ⟨fun i => if h : i < len then Classical.choose (each i h) else ⟨0, 0, 0, 0, none, 0, []⟩, fun i hi => ?_⟩
      simp only [dif_pos hi]
      exact Classical.choose_spec (each i hi)
    refine ⟨some a, len, cap, (List.range len).map f, hcs, by simp, fun j hj => ?_, by simp; omega, fun d hd => ?_⟩
    · rw [List.length_map, List.length_range] at hj
      simp only [List.getElem_map, List.getElem_range]
      exact (hf j hj).1
    · obtain ⟨i, hi, rfl⟩ := List.mem_map.1 hd
      exact (hf i (List.mem_range.1 hi)).2
end
/-- Few enough. -/
def few (l : List D) : Bool := decide (l.length ≤ 80) && l.all fun d => decide (d.l.length ≤ 20)
theorem few_eq {l : List D} : few l = true ↔ l.length ≤ 80 ∧ ∀ d ∈ l, d.l.length ≤ 20 := by
  unfold few
  simp
def fewN (l : List D) : Int := if few l then 1 else 0
set_option maxHeartbeats 400000 in
theorem few_any (a : Option Addr) (c : Nat) (l : List D) (w : World) (hl : l.length ≤ maxLen) (h : AtL dl w a l) (hok : ∀ d ∈ l, DOk w d) : Calls Try.prog 8 #[.slice a l.length c] w fun e w' => e = .returned (.int .i64 (fewN l)) ∧ Below w.heap.size w w' := by
  have hmx : (l.length : Int) ≤ 9223372036854775807 := by unfold maxLen at hl; omega
  by_cases k0 : l.length ≤ 80
  · have d0 : decide ((80 : Int) < (l.length : Int)) = false := decide_eq_false (by omega)
    have HA := Hid_of h
    have HOK := Hid_of hok
    clear h hok
    go_enter Try.func8, Try.ntmps8
    go_wp2
    go_loopw [3] (fun i wr => ∃ k : Nat, k ≤ l.length ∧ i = .int .i64 k ∧ Hid (Below w.heap.size w wr) ∧ Hid (∀ d ∈ l.take k, d.l.length ≤ 20)) (fun i _ => l.length - (intOf i).toNat)
    case atStart => exact ⟨0, by omega, rfl, Hid_of (Below.refl _ _), Hid_of (by simp)⟩
    case round =>
      obtain ⟨k, hk, rfl, HB, HT⟩ := hrel
      by_cases hlt : k < l.length
      · obtain ⟨b, off, rfl, c0, c1, c2, c3, c4⟩ := (HA.out.keep HB.out).getD k hlt
        have hki : (k : Int) < (l.length : Int) := by omega
        have hmd := (HOK.out _ (List.getElem_mem hlt)).mx
        have hmd2 : (l[k].l.length : Int) ≤ 9223372036854775807 := by unfold maxLen at hmd; omega
        by_cases k1 : l[k].l.length ≤ 20
        · have d1 : decide ((20 : Int) < (l[k].l.length : Int)) = false := decide_eq_false (by omega)
          have HN : Hid (∀ d ∈ l.take (k + 1), d.l.length ≤ 20) := Hid_of fun d hd => by
            rw [List.take_succ_eq_append_getElem hlt] at hd
            rcases List.mem_append.1 hd with hd | hd
            · exact HT.out d hd
            · simp at hd; subst hd; exact k1
          clear HT hmd k1
          generalize l[k] = x at *
          go_wp2
          go_roundw
          case rel => exact ⟨k + 1, by omega, by go_num, HB, HN⟩
          case measure => simp [intOf]; omega
        · have d1 : decide ((20 : Int) < (l[k].l.length : Int)) = true := decide_eq_true (by omega)
          have HF : Hid (fewN l = 0) := Hid_of (by unfold fewN; rw [if_neg fun h => k1 ((few_eq.1 h).2 _ (List.getElem_mem hlt))])
          clear HT hmd k1
          generalize l[k] = x at *
          go_wp2
          go_ret
          exact ⟨by rw [HF.out]; rfl, HB.out⟩
      · have hkn : k = l.length := by omega
        subst hkn
        have HF : Hid (fewN l = 1) := Hid_of (by unfold fewN; rw [if_pos (few_eq.2 ⟨k0, fun d hd => HT.out d (by rw [List.take_length]; exact hd)⟩)])
        clear HT
        go_wp2
        go_ret
        exact ⟨by rw [HF.out]; rfl, HB.out⟩
  · have d0 : decide ((80 : Int) < (l.length : Int)) = true := decide_eq_true (by omega)
    rw [show fewN l = 0 by unfold fewN; rw [if_neg fun h => k0 (few_eq.1 h).1]]
    clear h hok
    go_enter Try.func8, Try.ntmps8
    go_wp2
    go_ret
    exact ⟨rfl, Below.refl _ _⟩

end Go.Proofs.Ytgcfpihfoekllaa
