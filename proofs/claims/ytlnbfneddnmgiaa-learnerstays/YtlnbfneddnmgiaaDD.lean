/-
  Ballots, votes and deeds that came in.
-/
import Derived.Test.YtlnbfneddnmgiaaAW
import Derived.SliceStrings
import Derived.ChangeOld
import Derived.OpenShut
import Derived.ShutString
import Derived.ProofKit
import Derived.SizedLaws
namespace Go.Proofs.Ytlnbfneddnmgiaa
open Go.ChangeShapes Go.WideShapes Go.ChangeAt Go.RowKit
set_option linter.unusedVariables false
open M (E V)

/-- A deed: its kind, a node, and a vote. -/
structure D where
  k : Int
  fr : Int
  v : V
def vl' : Ly V := ⟨4, fun x => [.int .i64 x.s, .int .i64 x.b.i, .int .i64 x.b.t, .string x.v], fun _ => rfl, fun x v h => by simp at h; rcases h with rfl | rfl | rfl | rfl <;> rfl, by decide⟩
def dl : Ly D := ⟨6, fun x => [.int .i64 x.k, .int .i64 x.fr, .int .i64 x.v.s, .int .i64 x.v.b.i, .int .i64 x.v.b.t, .string x.v.v], fun _ => rfl, fun x v h => by simp at h; rcases h with rfl | rfl | rfl | rfl | rfl | rfl <;> rfl, by decide⟩
theorem AtL.getD {w : World} {a : Option Addr} {l : List D} (h : AtL dl w a l) (j : Nat) (hj : j < l.length) : ∃ b off, a = some ⟨b, off, none⟩ ∧ w.cell? ⟨b, off + j * 6, none⟩ = some (.int .i64 l[j].k) ∧ w.cell? ⟨b, off + j * 6 + 1, none⟩ = some (.int .i64 l[j].fr) ∧ w.cell? ⟨b, off + j * 6 + 2, none⟩ = some (.int .i64 l[j].v.s) ∧ w.cell? ⟨b, off + j * 6 + 3, none⟩ = some (.int .i64 l[j].v.b.i) ∧ w.cell? ⟨b, off + j * 6 + 4, none⟩ = some (.int .i64 l[j].v.b.t) ∧ w.cell? ⟨b, off + j * 6 + 5, none⟩ = some (.string l[j].v.v) := by
  obtain ⟨b, off, e, h0⟩ := h j hj
  exact ⟨b, off, e, h0 0 (by decide), h0 1 (by decide), h0 2 (by decide), h0 3 (by decide), h0 4 (by decide), h0 5 (by decide)⟩
/-- What is known of a deed that came in. -/
structure DOk (d : D) : Prop where
  sz : d.v.v.size ≤ maxLen
  wf : (Lit.int .i64 d.v.s).wf = true
theorem AtL.lt {α : Type} {Y : Ly α} {w : World} {a : Option Addr} {l : List α} (h : AtL Y w a l) (hl : 0 < l.length) : ∀ k, blk a k → k < w.heap.size := by
  obtain ⟨b, off, rfl, h0⟩ := h 0 hl
  rintro k ⟨o, s, e⟩
  cases e
  exact World.block_lt_of_cell? w _ (h0 0 Y.pos)
theorem own : ownKnob Try.prog.godebug = none := by kernel_rfl
theorem laidOut : laidOutB Try.prog = true := by kernel_rfl
theorem Try.cells3 : Try.prog.cellsOf 3 = 1 := by kernel_rfl
theorem Try.cells9 : Try.prog.cellsOf 9 = 1 := by kernel_rfl
theorem Try.cells34 : Try.prog.cellsOf 34 = 2 := by kernel_rfl
theorem Try.cells36 : Try.prog.cellsOf 36 = 4 := by kernel_rfl
theorem Try.cells38 : Try.prog.cellsOf 38 = 6 := by kernel_rfl
theorem spot_of {w : World} {a : Addr} {v : Value} (h : w.cell? (a.add 0) = some v) : a.spot = none := by
  have hs := World.cell?_spot h
  simpa [Addr.add] using hs
section
variable {H : Type} {enc : TypeId × Value → H} {w : World} {base : Nat} {spare : Nat → Bool} {held : Bool} {fuel : Nat}
set_option maxRecDepth 100000 in
theorem open_ballot {cs : List Value} {x : DataW H × List MemPlace} (h : DataW.trod enc Try.prog w base spare held fuel 34 cs = some x) : ∃ d : E, cs = bl.cs d ∧ True := by
  obtain ⟨xs, n, rfl, hx, hl, hxs, hf⟩ := DataW.trod_struct Try.underlying34 h
  rw [Try.cells34] at hl
  obtain ⟨c0, c1, rfl⟩ : ∃ c0 c1, cs = [c0, c1] := by
    match cs, hl with
    | [a, b], _ => exact ⟨a, b, rfl⟩
  have hxs2 : xs.length = 2 := hxs
  obtain ⟨x0, x1, rfl⟩ : ∃ x0 x1, xs = [x0, x1] := by
    match xs, hxs2 with
    | [a, b], _ => exact ⟨a, b, rfl⟩
  have f0 : DataW.trod enc Try.prog w base spare held n 3 [c0] = some x0 := by have := hf 0 _ rfl; simpa [Try.cells3] using this
  have f1 : DataW.trod enc Try.prog w base spare held n 3 [c1] = some x1 := by have := hf 1 _ rfl; simpa [Try.cells3] using this
  obtain ⟨n0, e0, _, w0⟩ := DataW.trod_int Try.underlying3 f0
  obtain ⟨n1, e1, _, w1⟩ := DataW.trod_int Try.underlying3 f1
  simp only [List.cons.injEq, and_true] at e0 e1
  subst e0 e1
  exact ⟨⟨n0, n1⟩, rfl, trivial⟩
set_option maxRecDepth 100000 in
theorem open_vote {cs : List Value} {x : DataW H × List MemPlace} (h : DataW.trod enc Try.prog w base spare held fuel 36 cs = some x) : ∃ d : V, cs = vl'.cs d ∧ d.v.size ≤ maxLen ∧ (Lit.int .i64 d.s).wf = true := by
  obtain ⟨xs, n, rfl, hx, hl, hxs, hf⟩ := DataW.trod_struct Try.underlying36 h
  rw [Try.cells36] at hl
  obtain ⟨c0, c1, c2, c3, rfl⟩ : ∃ c0 c1 c2 c3, cs = [c0, c1, c2, c3] := by
    match cs, hl with
    | [a, b, c, d], _ => exact ⟨a, b, c, d, rfl⟩
  have hxs2 : xs.length = 3 := hxs
  obtain ⟨x0, x1, x2, rfl⟩ : ∃ x0 x1 x2, xs = [x0, x1, x2] := by
    match xs, hxs2 with
    | [a, b, c], _ => exact ⟨a, b, c, rfl⟩
  have f0 : DataW.trod enc Try.prog w base spare held n 3 [c0] = some x0 := by have := hf 0 _ rfl; simpa [Try.cells3] using this
  have f1 : DataW.trod enc Try.prog w base spare held n 34 [c1, c2] = some x1 := by have := hf 1 _ rfl; simpa [Try.cells34] using this
  have f2 : DataW.trod enc Try.prog w base spare held n 9 [c3] = some x2 := by have := hf 2 _ rfl; simpa [Try.cells9] using this
  obtain ⟨n0, e0, _, w0⟩ := DataW.trod_int Try.underlying3 f0
  obtain ⟨d, e1, _⟩ := open_ballot f1
  obtain ⟨s3, e3, g3, w3⟩ := DataW.trod_string Try.underlying9 f2
  have e1' : [c1, c2] = [.int .i64 d.i, .int .i64 d.t] := e1
  simp only [List.cons.injEq, and_true] at e0 e1' e3
  obtain ⟨rfl, rfl⟩ := e1'
  subst e0 e3
  exact ⟨⟨n0, d, s3⟩, rfl, w3, w0⟩
set_option maxRecDepth 100000 in
theorem open_deed {cs : List Value} {x : DataW H × List MemPlace} (h : DataW.trod enc Try.prog w base spare held fuel 38 cs = some x) : ∃ d : D, cs = dl.cs d ∧ DOk d := by
  obtain ⟨xs, n, rfl, hx, hl, hxs, hf⟩ := DataW.trod_struct Try.underlying38 h
  rw [Try.cells38] at hl
  obtain ⟨c0, c1, c2, c3, c4, c5, rfl⟩ : ∃ c0 c1 c2 c3 c4 c5, cs = [c0, c1, c2, c3, c4, c5] := by
    match cs, hl with
    | [a, b, c, d, e, f], _ => exact ⟨a, b, c, d, e, f, rfl⟩
  have hxs2 : xs.length = 3 := hxs
  obtain ⟨x0, x1, x2, rfl⟩ : ∃ x0 x1 x2, xs = [x0, x1, x2] := by
    match xs, hxs2 with
    | [a, b, c], _ => exact ⟨a, b, c, rfl⟩
  have f0 : DataW.trod enc Try.prog w base spare held n 3 [c0] = some x0 := by have := hf 0 _ rfl; simpa [Try.cells3] using this
  have f1 : DataW.trod enc Try.prog w base spare held n 3 [c1] = some x1 := by have := hf 1 _ rfl; simpa [Try.cells3] using this
  have f2 : DataW.trod enc Try.prog w base spare held n 36 [c2, c3, c4, c5] = some x2 := by have := hf 2 _ rfl; simpa [Try.cells36] using this
  obtain ⟨n0, e0, _, w0⟩ := DataW.trod_int Try.underlying3 f0
  obtain ⟨n1, e1, _, w1⟩ := DataW.trod_int Try.underlying3 f1
  obtain ⟨d, e2, hd, hw⟩ := open_vote f2
  have e2' : [c2, c3, c4, c5] = [.int .i64 d.s, .int .i64 d.b.i, .int .i64 d.b.t, .string d.v] := e2
  simp only [List.cons.injEq, and_true] at e0 e1 e2'
  obtain ⟨rfl, rfl, rfl, rfl⟩ := e2'
  subst e0 e1
  exact ⟨⟨n0, n1, d⟩, rfl, ⟨hd, hw⟩⟩
set_option maxRecDepth 100000 in
theorem open_deeds {cs : List Value} {x : DataW H × List MemPlace} (h : DataW.trod enc Try.prog w base spare held fuel 22 cs = some x) :
    ∃ a len cap, ∃ l : List D, cs = [.slice a len cap] ∧ len = l.length ∧ AtL dl w a l ∧ l.length ≤ maxLen ∧ ∀ d ∈ l, DOk d := by
  rcases DataW.trod_slice Try.underlying22 h with ⟨hcs, _⟩ | ⟨a, len, cap, elems, rest, n, _, hcs, hx, hb, hl, hm, hlen, hel, hsp, hns⟩
  · exact ⟨none, 0, 0, [], hcs, rfl, AtL.nil _ _, Nat.zero_le _, by simp⟩
  · have each : ∀ i, i < len → ∃ d : D, (∃ b off, some a = some (⟨b, off, none⟩ : Addr) ∧ ∀ o (ho : o < 6), w.cell? ⟨b, off + i * 6 + o, none⟩ = some ((dl.cs d)[o]'ho)) ∧ DOk d := by
      intro i hi
      have he := hel i hi
      rw [List.getElem?_eq_getElem (by omega), Option.bind_eq_some_iff, Try.cells38] at he
      obtain ⟨cs', hcs', ht⟩ := he
      obtain ⟨d, rfl, hwt⟩ := open_deed ht
      obtain ⟨_, _, hc⟩ := World.cells?_some hcs'
      refine ⟨d, ?_, ?_⟩
      · have hsp : a.spot = none := by
          have he := hel 0 (by omega)
          rw [List.getElem?_eq_getElem (by omega), Option.bind_eq_some_iff, Try.cells38] at he
          obtain ⟨cs0, hcs0, _⟩ := he
          obtain ⟨_, hl0, hc0⟩ := World.cells?_some hcs0
          have q := hc0 0 (by omega)
          rw [Addr.add_add, List.getElem?_eq_getElem (by omega)] at q
          exact spot_of (by simpa using q)
        obtain ⟨b, off, sp⟩ := a
        simp only at hsp
        subst hsp
        refine ⟨b, off, rfl, fun o ho => ?_⟩
        have q := hc o (by omega)
        rw [add_n, add_n, List.getElem?_eq_getElem (show o < (dl.cs d).length from ho)] at q
        exact q
      · exact hwt
    have ⟨f, hf⟩ : ∃ f : Nat → D, ∀ i, i < len → (∃ b off, some a = some (⟨b, off, none⟩ : Addr) ∧ ∀ o (ho : o < 6), w.cell? ⟨b, off + i * 6 + o, none⟩ = some ((dl.cs (f i))[o]'ho)) ∧ DOk (f i) := by
      refine ⟨fun i => if h : i < len then Classical.choose (each i h) else ⟨0, 0, ⟨0, ⟨0, 0⟩, ⟨#[]⟩⟩⟩, fun i hi => ?_⟩
      simp only [dif_pos hi]
      exact Classical.choose_spec (each i hi)
    refine ⟨some a, len, cap, (List.range len).map f, hcs, by simp, fun j hj => ?_, by simp; omega, fun d hd => ?_⟩
    · rw [List.length_map, List.length_range] at hj
      simp only [List.getElem_map, List.getElem_range]
      exact (hf j hj).1
    · obtain ⟨i, hi, rfl⟩ := List.mem_map.1 hd
      exact (hf i (List.mem_range.1 hi)).2
end
/-- Are deeds not too many, and too long? -/
def Few (l : List D) : Prop := l.length ≤ 60 ∧ ∀ d ∈ l, d.v.v.size ≤ 5000
set_option maxRecDepth 100000 in
set_option maxHeartbeats 1000000 in
theorem few_any (a : Option Addr) (cap : Nat) (l : List D) (w : World) (hl : l.length ≤ maxLen) (hd : AtL dl w a l) (hok : ∀ d ∈ l, DOk d) :
    Calls Try.prog 7 #[.slice a l.length cap] w fun e w' => ∃ b : Bool, e = .returned (.int .i64 (if b then 1 else 0)) ∧ (b = true → Few l) ∧ w' = w := by
  by_cases h80 : 60 < l.length
  · go_enter Try.func7, Try.ntmps7
    go_wp2
    go_ret
    exact ⟨false, rfl, (fun h => by cases h), rfl⟩
  · have HOK := Hid_of hok
    clear hok
    go_enter Try.func7, Try.ntmps7
    go_wp2
    go_loopw [3] (fun i wr => ∃ k : Nat, k ≤ l.length ∧ i = .int .i64 k ∧ wr = w ∧ Hid (∀ j (h : j < l.length), j < k → l[j].v.v.size ≤ 5000)) (fun i _ => l.length - (intOf i).toNat)
    case atStart => exact ⟨0, by omega, rfl, rfl, fun j h hj => by omega⟩
    case round =>
      obtain ⟨k, hk, rfl, rfl, HF⟩ := hrel
      by_cases hlt : k < l.length
      · obtain ⟨b, off, rfl, c0, c1, c2, c3, c4, c5⟩ := hd.getD k hlt
        have hsz : l[k].v.v.size ≤ 9223372036854775807 := by have := (HOK.out l[k] (List.getElem_mem hlt)).sz; unfold maxLen at this; omega
        have HN : Hid (l[k].v.v.size ≤ 5000 → ∀ j (h : j < l.length), j < k + 1 → l[j].v.v.size ≤ 5000) := fun h j hj hjk => by
          rcases Nat.lt_or_ge j k with h' | h'
          · exact HF.out j hj h'
          · obtain rfl : j = k := by omega
            exact h
        clear hd HOK HF
        generalize l[k].v.v = s at *
        generalize l[k].k = dk at *
        generalize l[k].fr = df at *
        generalize l[k].v.s = dy at *
        generalize l[k].v.b.i = di at *
        generalize l[k].v.b.t = dt at *
        by_cases h7 : 5000 < s.size
        · have hdd : decide ((5000 : Int) < (s.size : Int)) = true := by simp; omega
          go_wp2
          go_ret
          exact ⟨false, rfl, (fun h => by cases h), rfl⟩
        · have hdd : decide ((5000 : Int) < (s.size : Int)) = false := by simp; omega
          have HN2 := Hid_of (HN.out (by omega))
          clear HN
          go_wp2
          go_roundw
          case rel => exact ⟨k + 1, by omega, by go_num, by first | rfl | trivial, HN2.out⟩
          case measure => simp [intOf]; omega
      · have hkn : k = l.length := by omega
        subst hkn
        have HK : Hid (Few l) := ⟨by omega, fun d hd => by obtain ⟨i, hi, rfl⟩ := List.getElem_of_mem hd; exact HF.out i hi hi⟩
        clear HF
        go_wp2
        go_ret
        exact ⟨true, rfl, fun _ => HK.out, rfl⟩
end Go.Proofs.Ytlnbfneddnmgiaa
