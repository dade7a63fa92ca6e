/-
  Ballots, votes and deeds that came in; are they few?
  The law DurableNone, walked.
-/
import Derived.Test.YtlnedgjikkhplaaGreatGN42
import Derived.SliceStrings
import Derived.ChangeOld
import Derived.OpenShut
import Derived.ShutString
import Derived.ProofKit
import Derived.SizedLaws
section
namespace Go.Proofs.YtlnedgjikkhplaaGreat.Du
open Go.RowKit
set_option linter.unusedVariables false
set_option linter.unusedSimpArgs false
open Na (Fr AS XL vl bV vV Hid_of bel1 bel2 bel_up bel_row row2 row4 blk OwnL AtL)
open Na.M (E V S S0)

open Go.ChangeShapes Go.WideShapes Go.ChangeAt
/-- A deed: its kind, a vote, steps, what is kept. -/
structure D where
  k : Int
  v : V
  st : Int
  kp : Nat
def D.ok (d : D) : Prop := d.v.v.size ≤ maxLen ∧ I64 d.v.s ∧ d.kp < 18446744073709551616
def dl : Na.Ly D := ⟨7, fun x => [.int .i64 x.k, .int .i64 x.v.s, .int .i64 x.v.b.i, .int .i64 x.v.b.t, .string x.v.v, .int .i64 x.st, .int .u64 (x.kp : Int)], fun _ => rfl, fun x v h => by simp at h; rcases h with rfl | rfl | rfl | rfl | rfl | rfl | rfl <;> rfl, by decide⟩
theorem getD {w : World} {a : Option Addr} {l : List D} (h : AtL dl w a l) (j : Nat) (hj : j < l.length) : ∃ b off, a = some ⟨b, off, none⟩ ∧ w.cell? ⟨b, off + j * 7, none⟩ = some (.int .i64 l[j].k) ∧ w.cell? ⟨b, off + j * 7 + 1, none⟩ = some (.int .i64 l[j].v.s) ∧ w.cell? ⟨b, off + j * 7 + 2, none⟩ = some (.int .i64 l[j].v.b.i) ∧ w.cell? ⟨b, off + j * 7 + 3, none⟩ = some (.int .i64 l[j].v.b.t) ∧ w.cell? ⟨b, off + j * 7 + 4, none⟩ = some (.string l[j].v.v) ∧ w.cell? ⟨b, off + j * 7 + 5, none⟩ = some (.int .i64 l[j].st) ∧ w.cell? ⟨b, off + j * 7 + 6, none⟩ = some (.int .u64 (l[j].kp : Int)) := by
  obtain ⟨b, off, e, h0⟩ := h j hj
  exact ⟨b, off, e, h0 0 (by decide), h0 1 (by decide), h0 2 (by decide), h0 3 (by decide), h0 4 (by decide), h0 5 (by decide), h0 6 (by decide)⟩
theorem wf_u64 {a : Int} (h : (Lit.int .u64 a).wf = true) : ∃ x : Nat, x < 18446744073709551616 ∧ a = (x : Int) := by
  simp [Lit.wf, IntKind.min, IntKind.max, IntKind.bits, IntKind.signed] at h
  exact ⟨a.toNat, by omega, by omega⟩
theorem wf_i64 {a : Int} (h : (Lit.int .i64 a).wf = true) : I64 a := by
  simp [Lit.wf, IntKind.min, IntKind.max, IntKind.bits, IntKind.signed] at h
  unfold I64
  omega
theorem own : ownKnob Tryz.prog.godebug = none := by kernel_rfl
theorem laidOut : laidOutB Tryz.prog = true := by kernel_rfl
theorem Tryz.cells3 : Tryz.prog.cellsOf 3 = 1 := by kernel_rfl
theorem Tryz.cells9 : Tryz.prog.cellsOf 9 = 1 := by kernel_rfl
theorem Tryz.cells36 : Tryz.prog.cellsOf 36 = 2 := by kernel_rfl
theorem Tryz.cells48 : Tryz.prog.cellsOf 48 = 4 := by kernel_rfl
theorem Tryz.cells50 : Tryz.prog.cellsOf 50 = 5 := by kernel_rfl
theorem Tryz.cells53 : Tryz.prog.cellsOf 53 = 7 := by kernel_rfl
theorem Tryz.cells51 : Tryz.prog.cellsOf 51 = 1 := by kernel_rfl
theorem spot_of {w : World} {a : Addr} {v : Value} (h : w.cell? (a.add 0) = some v) : a.spot = none := by
  have hs := World.cell?_spot h
  simpa [Addr.add] using hs
section
variable {H : Type} {enc : TypeId × Value → H} {w : World} {base : Nat} {spare : Nat → Bool} {held : Bool} {fuel : Nat}
set_option maxRecDepth 100000 in
theorem open_ballot {cs : List Value} {x : DataW H × List MemPlace} (h : DataW.trod enc Tryz.prog w base spare held fuel 36 cs = some x) : ∃ d : E, cs = Na.bl.cs d ∧ True := by
  obtain ⟨xs, n, rfl, hx, hl, hxs, hf⟩ := DataW.trod_struct Tryz.underlying36 h
  rw [Tryz.cells36] at hl
  obtain ⟨c0, c1, rfl⟩ : ∃ c0 c1, cs = [c0, c1] := by
    match cs, hl with
    | [a, b], _ => exact ⟨a, b, rfl⟩
  have hxs2 : xs.length = 2 := hxs
  obtain ⟨x0, x1, rfl⟩ : ∃ x0 x1, xs = [x0, x1] := by
    match xs, hxs2 with
    | [a, b], _ => exact ⟨a, b, rfl⟩
  have f0 : DataW.trod enc Tryz.prog w base spare held n 3 [c0] = some x0 := by have := hf 0 _ rfl; simpa [Tryz.cells3] using this
  have f1 : DataW.trod enc Tryz.prog w base spare held n 3 [c1] = some x1 := by have := hf 1 _ rfl; simpa [Tryz.cells3] using this
  obtain ⟨n0, e0, _, w0⟩ := DataW.trod_int Tryz.underlying3 f0
  obtain ⟨n1, e1, _, w1⟩ := DataW.trod_int Tryz.underlying3 f1
  simp only [List.cons.injEq, and_true] at e0 e1
  subst e0 e1
  exact ⟨⟨n0, n1⟩, rfl, trivial⟩
set_option maxRecDepth 100000 in
theorem open_vote {cs : List Value} {x : DataW H × List MemPlace} (h : DataW.trod enc Tryz.prog w base spare held fuel 48 cs = some x) : ∃ d : V, cs = vl.cs d ∧ d.v.size ≤ maxLen ∧ I64 d.s := by
  obtain ⟨xs, n, rfl, hx, hl, hxs, hf⟩ := DataW.trod_struct Tryz.underlying48 h
  rw [Tryz.cells48] at hl
  obtain ⟨c0, c1, c2, c3, rfl⟩ : ∃ c0 c1 c2 c3, cs = [c0, c1, c2, c3] := by
    match cs, hl with
    | [a, b, c, d], _ => exact ⟨a, b, c, d, rfl⟩
  have hxs2 : xs.length = 3 := hxs
  obtain ⟨x0, x1, x2, rfl⟩ : ∃ x0 x1 x2, xs = [x0, x1, x2] := by
    match xs, hxs2 with
    | [a, b, c], _ => exact ⟨a, b, c, rfl⟩
  have f0 : DataW.trod enc Tryz.prog w base spare held n 3 [c0] = some x0 := by have := hf 0 _ rfl; simpa [Tryz.cells3] using this
  have f1 : DataW.trod enc Tryz.prog w base spare held n 36 [c1, c2] = some x1 := by have := hf 1 _ rfl; simpa [Tryz.cells36] using this
  have f2 : DataW.trod enc Tryz.prog w base spare held n 9 [c3] = some x2 := by have := hf 2 _ rfl; simpa [Tryz.cells9] using this
  obtain ⟨n0, e0, _, w0⟩ := DataW.trod_int Tryz.underlying3 f0
  obtain ⟨d, e1, _⟩ := open_ballot f1
  obtain ⟨s3, e3, g3, w3⟩ := DataW.trod_string Tryz.underlying9 f2
  have e1' : [c1, c2] = [.int .i64 d.i, .int .i64 d.t] := e1
  simp only [List.cons.injEq, and_true] at e0 e1' e3
  obtain ⟨rfl, rfl⟩ := e1'
  subst e0 e3
  exact ⟨⟨n0, d, s3⟩, rfl, w3, wf_i64 w0⟩
set_option maxRecDepth 100000 in
theorem open_inner {cs : List Value} {x : DataW H × List MemPlace} (h : DataW.trod enc Tryz.prog w base spare held fuel 50 cs = some x) : ∃ (k : Int) (d : V), cs = [.int .i64 k, .int .i64 d.s, .int .i64 d.b.i, .int .i64 d.b.t, .string d.v] ∧ d.v.size ≤ maxLen ∧ I64 d.s := by
  obtain ⟨xs, n, rfl, hx, hl, hxs, hf⟩ := DataW.trod_struct Tryz.underlying50 h
  rw [Tryz.cells50] at hl
  obtain ⟨c0, c1, c2, c3, c4, rfl⟩ : ∃ c0 c1 c2 c3 c4, cs = [c0, c1, c2, c3, c4] := by
    match cs, hl with
    | [a, b, c, d, e], _ => exact ⟨a, b, c, d, e, rfl⟩
  have hxs2 : xs.length = 2 := hxs
  obtain ⟨x0, x1, rfl⟩ : ∃ x0 x1, xs = [x0, x1] := by
    match xs, hxs2 with
    | [a, b], _ => exact ⟨a, b, rfl⟩
  have f0 : DataW.trod enc Tryz.prog w base spare held n 3 [c0] = some x0 := by have := hf 0 _ rfl; simpa [Tryz.cells3] using this
  have f1 : DataW.trod enc Tryz.prog w base spare held n 48 [c1, c2, c3, c4] = some x1 := by have := hf 1 _ rfl; simpa [Tryz.cells48] using this
  obtain ⟨n0, e0, _, w0⟩ := DataW.trod_int Tryz.underlying3 f0
  obtain ⟨d, e1, hd⟩ := open_vote f1
  have e1' : [c1, c2, c3, c4] = [.int .i64 d.s, .int .i64 d.b.i, .int .i64 d.b.t, .string d.v] := e1
  simp only [List.cons.injEq, and_true] at e0 e1'
  obtain ⟨rfl, rfl, rfl, rfl⟩ := e1'
  subst e0
  exact ⟨n0, d, rfl, hd⟩
set_option maxRecDepth 100000 in
theorem open_deed {cs : List Value} {x : DataW H × List MemPlace} (h : DataW.trod enc Tryz.prog w base spare held fuel 53 cs = some x) : ∃ d : D, cs = dl.cs d ∧ d.ok := by
  obtain ⟨xs, n, rfl, hx, hl, hxs, hf⟩ := DataW.trod_struct Tryz.underlying53 h
  rw [Tryz.cells53] at hl
  obtain ⟨c0, c1, c2, c3, c4, c5, c6, rfl⟩ : ∃ c0 c1 c2 c3 c4 c5 c6, cs = [c0, c1, c2, c3, c4, c5, c6] := by
    match cs, hl with
    | [a, b, c, d, e, f, g], _ => exact ⟨a, b, c, d, e, f, g, rfl⟩
  have hxs2 : xs.length = 3 := hxs
  obtain ⟨x0, x1, x2, rfl⟩ : ∃ x0 x1 x2, xs = [x0, x1, x2] := by
    match xs, hxs2 with
    | [a, b, c], _ => exact ⟨a, b, c, rfl⟩
  have f0 : DataW.trod enc Tryz.prog w base spare held n 50 [c0, c1, c2, c3, c4] = some x0 := by have := hf 0 _ rfl; simpa [Tryz.cells50] using this
  have f1 : DataW.trod enc Tryz.prog w base spare held n 3 [c5] = some x1 := by have := hf 1 _ rfl; simpa [Tryz.cells3] using this
  have f2 : DataW.trod enc Tryz.prog w base spare held n 51 [c6] = some x2 := by have := hf 2 _ rfl; simpa [Tryz.cells51] using this
  obtain ⟨k, d, e0, hd⟩ := open_inner f0
  obtain ⟨n1, e1, _, w1⟩ := DataW.trod_int Tryz.underlying3 f1
  obtain ⟨n2, e2, _, w2⟩ := DataW.trod_int Tryz.underlying51 f2
  obtain ⟨kp, hkp, rfl⟩ := wf_u64 w2
  simp only [List.cons.injEq, and_true] at e0 e1 e2
  obtain ⟨rfl, rfl, rfl, rfl, rfl⟩ := e0
  subst e1 e2
  exact ⟨⟨k, d, n1, kp⟩, rfl, hd.1, hd.2, hkp⟩
set_option maxRecDepth 100000 in
theorem open_deeds {cs : List Value} {x : DataW H × List MemPlace} (h : DataW.trod enc Tryz.prog w base spare held fuel 22 cs = some x) :
    ∃ a len cap, ∃ l : List D, cs = [.slice a len cap] ∧ len = l.length ∧ AtL dl w a l ∧ l.length ≤ maxLen ∧ ∀ d ∈ l, d.ok := by
  rcases DataW.trod_slice Tryz.underlying22 h with ⟨hcs, _⟩ | ⟨a, len, cap, elems, rest, n, _, hcs, hx, hb, hl, hm, hlen, hel, hsp, hns⟩
  · exact ⟨none, 0, 0, [], hcs, rfl, Na.AtL.nil _ _, Nat.zero_le _, by simp⟩
  · have each : ∀ i, i < len → ∃ d : D, (∃ b off, some a = some (⟨b, off, none⟩ : Addr) ∧ ∀ o (ho : o < 7), w.cell? ⟨b, off + i * 7 + o, none⟩ = some ((dl.cs d)[o]'ho)) ∧ d.ok := by
      intro i hi
      have he := hel i hi
      rw [List.getElem?_eq_getElem (by omega), Option.bind_eq_some_iff, Tryz.cells53] at he
      obtain ⟨cs', hcs', ht⟩ := he
      obtain ⟨d, rfl, hwt⟩ := open_deed ht
      obtain ⟨_, _, hc⟩ := World.cells?_some hcs'
      refine ⟨d, ?_, ?_⟩
      · have hsp : a.spot = none := by
          have he := hel 0 (by omega)
          rw [List.getElem?_eq_getElem (by omega), Option.bind_eq_some_iff, Tryz.cells53] at he
          obtain ⟨cs0, hcs0, _⟩ := he
          obtain ⟨_, hl0, hc0⟩ := World.cells?_some hcs0
          have q := hc0 0 (by omega)
          rw [Addr.add_add, List.getElem?_eq_getElem (by omega)] at q
          exact spot_of (by simpa using q)
        obtain ⟨b, off, sp⟩ := a
        simp only at hsp
        subst hsp
        refine ⟨b, off, rfl, fun o ho => ?_⟩
        have q := hc o (by omega)
        rw [Na.add_n, Na.add_n, List.getElem?_eq_getElem (show o < (dl.cs d).length from ho)] at q
        exact q
      · exact hwt
    have ⟨f, hf⟩ : ∃ f : Nat → D, ∀ i, i < len → (∃ b off, some a = some (⟨b, off, none⟩ : Addr) ∧ ∀ o (ho : o < 7), w.cell? ⟨b, off + i * 7 + o, none⟩ = some ((dl.cs (f i))[o]'ho)) ∧ (f i).ok := by
      refine ⟨fun i => if h : i < len then Classical.choose (each i h) else ⟨0, ⟨0, ⟨0, 0⟩, ⟨#[]⟩⟩, 0, 0⟩, fun i hi => ?_⟩
      simp only [dif_pos hi]
      exact Classical.choose_spec (each i hi)
    refine ⟨some a, len, cap, (List.range len).map f, hcs, by simp, fun j hj => ?_, by simp; omega, fun d hd => ?_⟩
    · rw [List.length_map, List.length_range] at hj
      simp only [List.getElem_map, List.getElem_range]
      exact (hf j hj).1
    · obtain ⟨i, hi, rfl⟩ := List.mem_map.1 hd
      exact (hf i (List.mem_range.1 hi)).2
end
/-- Are deeds not too many, and too long, the device not too great? -/
structure Few (n : Int) (l : List D) : Prop where
  n : n ≤ 300
  l : l.length ≤ 25
def FwO (n : Int) (l : List D) (w : World) (e : Ending) (w' : World) : Prop := (e = .returned (.int .i64 0) ∧ w' = w) ∨ (e = .returned (.int .i64 1) ∧ Few n l ∧ w' = w)
set_option maxRecDepth 100000 in
set_option maxHeartbeats 1000000 in
theorem few_any (n : Int) (a : Option Addr) (cap : Nat) (l : List D) (w : World) (hl : l.length ≤ maxLen) (hd : AtL dl w a l) (hok : ∀ d ∈ l, d.ok) :
    Calls Tryz.prog 7 #[.int .i64 n, .slice a l.length cap] w (FwO n l w) := by
  by_cases h25 : 25 < l.length
  · go_enter Tryz.func7, Tryz.ntmps7
    go_wp2
    go_ret
    exact .inl ⟨rfl, rfl⟩
  · by_cases hn : 300 < n
    · have hd1 : decide ((25 : Int) < (l.length : Int)) = false := decide_eq_false (by omega)
      have hd2 : decide ((300 : Int) < n) = true := decide_eq_true hn
      go_enter Tryz.func7, Tryz.ntmps7
      go_wp2
      go_ret
      exact .inl ⟨rfl, rfl⟩
    · have hd1 : decide ((25 : Int) < (l.length : Int)) = false := decide_eq_false (by omega)
      have hd2 : decide ((300 : Int) < n) = false := decide_eq_false hn
      have HOK := Hid_of hok
      have HK : Hid (Few n l) := ⟨by omega, by omega⟩
      clear hok
      go_enter Tryz.func7, Tryz.ntmps7
      go_wp2
      go_loopw [5] (fun i wr => ∃ k : Nat, k ≤ l.length ∧ i = .int .i64 k ∧ wr = w) (fun i _ => l.length - (intOf i).toNat)
      case atStart => exact ⟨0, by omega, rfl, rfl⟩
      case round =>
        obtain ⟨k, hk, rfl, rfl⟩ := hrel
        by_cases hlt : k < l.length
        · obtain ⟨b, off, rfl, c0, c1, c2, c3, c4, c5, c6⟩ := getD hd k hlt
          have hsz : l[k].v.v.size ≤ 9223372036854775807 := by have := (HOK.out l[k] (List.getElem_mem hlt)).1; unfold maxLen at this; omega
          clear hd HOK
          generalize l[k].v.v = s at *
          generalize l[k].k = dk at *
          generalize l[k].v.s = dy at *
          generalize l[k].v.b.i = di at *
          generalize l[k].v.b.t = dt at *
          generalize l[k].st = ds at *
          generalize l[k].kp = dp at *
          by_cases h7 : 5000 < s.size
          · have hdd : decide ((5000 : Int) < (s.size : Int)) = true := by simp; omega
            go_wp2
            go_ret
            exact .inl ⟨rfl, rfl⟩
          · have hdd : decide ((5000 : Int) < (s.size : Int)) = false := by simp; omega
            go_wp2
            go_roundw
            case rel => exact ⟨k + 1, by omega, by go_num, by first | rfl | trivial⟩
            case measure => simp [intOf]; omega
        · have hkn : k = l.length := by omega
          subst hkn
          go_wp2
          go_ret
          exact .inr ⟨rfl, HK.out, rfl⟩
end Go.Proofs.YtlnedgjikkhplaaGreat.Du
end
section
namespace Go.Proofs.YtlnedgjikkhplaaGreat.Du
open Go.RowKit
set_option linter.unusedVariables false
set_option linter.unusedSimpArgs false
open Na (Fr AS XL vl bV vV Hid_of bel1 bel2 bel_up bel_row row2 row4 blk OwnL AtL)
open Na.M (E V S S0)

abbrev dV (d : D) : Value := .agg #[.int .i64 d.k, .int .i64 d.v.s, .int .i64 d.v.b.i, .int .i64 d.v.b.t, .string d.v.v, .int .i64 d.st, .int .u64 (d.kp : Int)]
theorem eq36 (w : World) : (binOp .eql 36 (.agg #[.int .i64 0, .int .i64 0]) (.agg #[.int .i64 0, .int .i64 0])).run Tryz.prog w = .ok (.bool true) w := by
  have u3 := Tryz.underlying3
  have a3 := Tryz.isAgg3
  have z3 := Tryz.sizeOf3
  have hS2 : Tryz.prog.underlying 36 = some (.struct (Tryz.prog.fieldsOf 36)) := by kernel_rfl
  have hp2 : Tryz.prog.stoodInHeld 36 = false := by kernel_rfl
  rw [run_eql_struct, show (10000 : Nat) = 9999 + 1 from rfl, run_equalIn_agg w 9999 36 _ _ hS2 hp2]
  simp only [Program.fieldsOf, Tryz.underlying36]
  go_simp
set_option maxRecDepth 100000 in
set_option maxHeartbeats 2000000 in
theorem none_walk (d : D) (w : World) (hd : d.ok) : Calls Tryz.prog 6 #[dV d] w fun e w' => e = .returned (.bool true) ∧ Below w.heap.size w w' := by
  clear hd
  obtain ⟨W1, HW1⟩ : ∃ W1, Hid ((w.alloc (.cells #[.int .i64 d.k, .int .i64 d.v.s, .int .i64 d.v.b.i, .int .i64 d.v.b.t, .string d.v.v, .int .i64 d.st, .int .u64 (d.kp : Int)] 53)).alloc (.cells #[.int .i64 d.v.s, .int .i64 d.v.b.i, .int .i64 d.v.b.t, .string d.v.v] 48) = W1) := ⟨_, rfl⟩
  have hs1 : W1.heap.size = w.heap.size + 2 := by rw [← HW1.out]; simp
  have hb1 : Below w.heap.size w W1 := by rw [← HW1.out]; exact bel2 w _ _
  have hr1 : W1.heap[w.heap.size]? = some (.cells #[.int .i64 d.k, .int .i64 d.v.s, .int .i64 d.v.b.i, .int .i64 d.v.b.t, .string d.v.v, .int .i64 d.st, .int .u64 (d.kp : Int)] 53 (0, 0)) := by rw [← HW1.out]; exact heap_alloc2_old w _ _
  have hr2 : W1.heap[w.heap.size + 1]? = some (.cells #[.int .i64 d.v.s, .int .i64 d.v.b.i, .int .i64 d.v.b.t, .string d.v.v] 48 (0, 0)) := by rw [← HW1.out]; exact heap_alloc2_new w _ _
  have HB1 := Hid_of hb1
  have HR1 := Hid_of hr1
  have HR2 := Hid_of hr2
  have HS1 := Hid_of hs1
  obtain ⟨⟨c0, c1, c2, c3⟩, _⟩ := row4 hr2
  clear hb1 hr1 hr2 hs1
  obtain ⟨dk, ⟨vs, ⟨vi, vt⟩, vv⟩, st, kp⟩ := d
  simp only [dV] at HR1 HR2 HW1 c0 c1 c2 c3 ⊢
  go_enter Tryz.func6, Tryz.ntmps6
  go_upto_region 3 with fail
  rw [HW1.out]
  clear HW1
  have hc := promise_nil ⟨vi, vt⟩ vs W1
  go_wp2_with fail
  refine hc.mono ?_
  rintro e w2 ⟨rfl, hb2⟩
  have HB2 := Hid_of (bel_up HB1.out hb2 (Nat.le_refl _))
  have HRa := Hid_of (bel_row HR1.out hb2)
  have HRb := Hid_of (bel_row HR2.out hb2)
  clear hc hb2 HB1 HR1 HR2 c0 c1 c2 c3
  obtain ⟨⟨c0, c1, c2, c3⟩, _⟩ := row4 HRb.out
  have hc := accept_nil ⟨vs, ⟨vi, vt⟩, vv⟩ w2
  go_wp2_with fail
  refine hc.mono ?_
  rintro e w3 ⟨rfl, hb3⟩
  have HB3 := Hid_of (bel_up HB2.out hb3 (Nat.le_refl _))
  have HRc := Hid_of (bel_row HRa.out hb3)
  have HRd := Hid_of (bel_row HRb.out hb3)
  clear hc hb3 HB2 HRa HRb c0 c1 c2 c3
  obtain ⟨⟨c0, c1, c2, c3⟩, _⟩ := row4 HRd.out
  have hc := trim_nil vs w3
  go_wp2_with fail
  refine hc.mono ?_
  rintro e w4 ⟨rfl, hw4⟩
  obtain rfl := hw4.symm
  clear hc hw4 c0 c1 c2 c3
  obtain ⟨_, _, _, _, _, q5, _⟩ := (row7 HRc.out).1
  have hc := compact_nil st w3
  go_wp2_with fail
  refine hc.mono ?_
  rintro e w5 ⟨rfl, hb5⟩
  have HB5 := Hid_of (bel_up HB3.out hb5 (Nat.le_refl _))
  clear hc hb5 HB3 HRc HRd q5
  have hc := promised_nil w5
  go_wp2_with fail
  refine hc.mono ?_
  rintro e w6 ⟨rfl, hb6⟩
  have HB6 := Hid_of (bel_up HB5.out hb6 (Nat.le_refl _))
  clear hc hb6 HB5
  have hc := votes_nil 0 w6
  have hq := eq36
  go_wp2_with fail
  refine hc.mono ?_
  rintro e w7 ⟨rfl, hw7⟩
  obtain rfl := hw7.symm
  clear hc hw7 hq
  have hc := base_nil w6
  go_wp2_with fail
  refine hc.mono ?_
  rintro e w7 ⟨rfl, hw7⟩
  obtain rfl := hw7.symm
  clear hc hw7
  have hc := room_nil w6
  go_wp2_with fail
  refine hc.mono ?_
  rintro e w7 ⟨rfl, hw7⟩
  obtain rfl := hw7.symm
  clear hc hw7
  have hc := awake_any w6
  go_wp2_with fail
  refine hc.mono ?_
  rintro e w8 ⟨rfl, hb8⟩
  have HB8 := Hid_of (bel_up HB6.out hb8 (Nat.le_refl _))
  clear hc hb8 HB6
  go_wp2
  go_ret
  exact ⟨rfl, HB8.out⟩
end Go.Proofs.YtlnedgjikkhplaaGreat.Du
end
