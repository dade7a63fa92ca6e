/-
  Ballots, votes and deeds that came in; are they few?
  The document's acceptor: which ballots it may follow, its votes, a trim.
-/
import Derived.Test.YtlnedgjikkhplaaGreatGL38
import Derived.SliceStrings
import Derived.ChangeOld
import Derived.OpenShut
import Derived.ShutString
import Derived.ProofKit
import Derived.SizedLaws
import Derived.Test.YtlnedgjikkhplaaGreatGL10
section
namespace Go.Proofs.YtlnedgjikkhplaaGreat.Du
open Go.RowKit
set_option linter.unusedVariables false
set_option linter.unusedSimpArgs false
open Na (Fr AS XL vl bV vV Hid_of bel1 bel2 bel_up bel_row row2 row4 blk OwnL AtL)
open Na.M (E V S S0)

open Go.ChangeShapes Go.WideShapes Go.ChangeAt
/-- A deed: its kind, a vote, steps, what is kept. -/
structure D where
  k : Int
  v : V
  st : Int
  kp : Nat
def D.ok (d : D) : Prop := d.v.v.size ≤ maxLen ∧ I64 d.v.s ∧ d.kp < 18446744073709551616
def dl : Na.Ly D := ⟨7, fun x => [.int .i64 x.k, .int .i64 x.v.s, .int .i64 x.v.b.i, .int .i64 x.v.b.t, .string x.v.v, .int .i64 x.st, .int .u64 (x.kp : Int)], fun _ => rfl, fun x v h => by simp at h; rcases h with rfl | rfl | rfl | rfl | rfl | rfl | rfl <;> rfl, by decide⟩
theorem getD {w : World} {a : Option Addr} {l : List D} (h : AtL dl w a l) (j : Nat) (hj : j < l.length) : ∃ b off, a = some ⟨b, off, none⟩ ∧ w.cell? ⟨b, off + j * 7, none⟩ = some (.int .i64 l[j].k) ∧ w.cell? ⟨b, off + j * 7 + 1, none⟩ = some (.int .i64 l[j].v.s) ∧ w.cell? ⟨b, off + j * 7 + 2, none⟩ = some (.int .i64 l[j].v.b.i) ∧ w.cell? ⟨b, off + j * 7 + 3, none⟩ = some (.int .i64 l[j].v.b.t) ∧ w.cell? ⟨b, off + j * 7 + 4, none⟩ = some (.string l[j].v.v) ∧ w.cell? ⟨b, off + j * 7 + 5, none⟩ = some (.int .i64 l[j].st) ∧ w.cell? ⟨b, off + j * 7 + 6, none⟩ = some (.int .u64 (l[j].kp : Int)) := by
  obtain ⟨b, off, e, h0⟩ := h j hj
  exact ⟨b, off, e, h0 0 (by decide), h0 1 (by decide), h0 2 (by decide), h0 3 (by decide), h0 4 (by decide), h0 5 (by decide), h0 6 (by decide)⟩
theorem wf_u64 {a : Int} (h : (Lit.int .u64 a).wf = true) : ∃ x : Nat, x < 18446744073709551616 ∧ a = (x : Int) := by
  simp [Lit.wf, IntKind.min, IntKind.max, IntKind.bits, IntKind.signed] at h
  exact ⟨a.toNat, by omega, by omega⟩
theorem wf_i64 {a : Int} (h : (Lit.int .i64 a).wf = true) : I64 a := by
  simp [Lit.wf, IntKind.min, IntKind.max, IntKind.bits, IntKind.signed] at h
  unfold I64
  omega
theorem own : ownKnob Tryz.prog.godebug = none := by kernel_rfl
theorem laidOut : laidOutB Tryz.prog = true := by kernel_rfl
theorem Tryz.cells3 : Tryz.prog.cellsOf 3 = 1 := by kernel_rfl
theorem Tryz.cells9 : Tryz.prog.cellsOf 9 = 1 := by kernel_rfl
theorem Tryz.cells36 : Tryz.prog.cellsOf 36 = 2 := by kernel_rfl
theorem Tryz.cells48 : Tryz.prog.cellsOf 48 = 4 := by kernel_rfl
theorem Tryz.cells50 : Tryz.prog.cellsOf 50 = 5 := by kernel_rfl
theorem Tryz.cells53 : Tryz.prog.cellsOf 53 = 7 := by kernel_rfl
theorem Tryz.cells51 : Tryz.prog.cellsOf 51 = 1 := by kernel_rfl
theorem spot_of {w : World} {a : Addr} {v : Value} (h : w.cell? (a.add 0) = some v) : a.spot = none := by
  have hs := World.cell?_spot h
  simpa [Addr.add] using hs
section
variable {H : Type} {enc : TypeId × Value → H} {w : World} {base : Nat} {spare : Nat → Bool} {held : Bool} {fuel : Nat}
set_option maxRecDepth 100000 in
theorem open_ballot {cs : List Value} {x : DataW H × List MemPlace} (h : DataW.trod enc Tryz.prog w base spare held fuel 36 cs = some x) : ∃ d : E, cs = Na.bl.cs d ∧ True := by
  obtain ⟨xs, n, rfl, hx, hl, hxs, hf⟩ := DataW.trod_struct Tryz.underlying36 h
  rw [Tryz.cells36] at hl
  obtain ⟨c0, c1, rfl⟩ : ∃ c0 c1, cs = [c0, c1] := by
    match cs, hl with
    | [a, b], _ => exact ⟨a, b, rfl⟩
  have hxs2 : xs.length = 2 := hxs
  obtain ⟨x0, x1, rfl⟩ : ∃ x0 x1, xs = [x0, x1] := by
    match xs, hxs2 with
    | [a, b], _ => exact ⟨a, b, rfl⟩
  have f0 : DataW.trod enc Tryz.prog w base spare held n 3 [c0] = some x0 := by have := hf 0 _ rfl; simpa [Tryz.cells3] using this
  have f1 : DataW.trod enc Tryz.prog w base spare held n 3 [c1] = some x1 := by have := hf 1 _ rfl; simpa [Tryz.cells3] using this
  obtain ⟨n0, e0, _, w0⟩ := DataW.trod_int Tryz.underlying3 f0
  obtain ⟨n1, e1, _, w1⟩ := DataW.trod_int Tryz.underlying3 f1
  simp only [List.cons.injEq, and_true] at e0 e1
  subst e0 e1
  exact ⟨⟨n0, n1⟩, rfl, trivial⟩
set_option maxRecDepth 100000 in
theorem open_vote {cs : List Value} {x : DataW H × List MemPlace} (h : DataW.trod enc Tryz.prog w base spare held fuel 48 cs = some x) : ∃ d : V, cs = vl.cs d ∧ d.v.size ≤ maxLen ∧ I64 d.s := by
  obtain ⟨xs, n, rfl, hx, hl, hxs, hf⟩ := DataW.trod_struct Tryz.underlying48 h
  rw [Tryz.cells48] at hl
  obtain ⟨c0, c1, c2, c3, rfl⟩ : ∃ c0 c1 c2 c3, cs = [c0, c1, c2, c3] := by
    match cs, hl with
    | [a, b, c, d], _ => exact ⟨a, b, c, d, rfl⟩
  have hxs2 : xs.length = 3 := hxs
  obtain ⟨x0, x1, x2, rfl⟩ : ∃ x0 x1 x2, xs = [x0, x1, x2] := by
    match xs, hxs2 with
    | [a, b, c], _ => exact ⟨a, b, c, rfl⟩
  have f0 : DataW.trod enc Tryz.prog w base spare held n 3 [c0] = some x0 := by have := hf 0 _ rfl; simpa [Tryz.cells3] using this
  have f1 : DataW.trod enc Tryz.prog w base spare held n 36 [c1, c2] = some x1 := by have := hf 1 _ rfl; simpa [Tryz.cells36] using this
  have f2 : DataW.trod enc Tryz.prog w base spare held n 9 [c3] = some x2 := by have := hf 2 _ rfl; simpa [Tryz.cells9] using this
  obtain ⟨n0, e0, _, w0⟩ := DataW.trod_int Tryz.underlying3 f0
  obtain ⟨d, e1, _⟩ := open_ballot f1
  obtain ⟨s3, e3, g3, w3⟩ := DataW.trod_string Tryz.underlying9 f2
  have e1' : [c1, c2] = [.int .i64 d.i, .int .i64 d.t] := e1
  simp only [List.cons.injEq, and_true] at e0 e1' e3
  obtain ⟨rfl, rfl⟩ := e1'
  subst e0 e3
  exact ⟨⟨n0, d, s3⟩, rfl, w3, wf_i64 w0⟩
set_option maxRecDepth 100000 in
theorem open_inner {cs : List Value} {x : DataW H × List MemPlace} (h : DataW.trod enc Tryz.prog w base spare held fuel 50 cs = some x) : ∃ (k : Int) (d : V), cs = [.int .i64 k, .int .i64 d.s, .int .i64 d.b.i, .int .i64 d.b.t, .string d.v] ∧ d.v.size ≤ maxLen ∧ I64 d.s := by
  obtain ⟨xs, n, rfl, hx, hl, hxs, hf⟩ := DataW.trod_struct Tryz.underlying50 h
  rw [Tryz.cells50] at hl
  obtain ⟨c0, c1, c2, c3, c4, rfl⟩ : ∃ c0 c1 c2 c3 c4, cs = [c0, c1, c2, c3, c4] := by
    match cs, hl with
    | [a, b, c, d, e], _ => exact ⟨a, b, c, d, e, rfl⟩
  have hxs2 : xs.length = 2 := hxs
  obtain ⟨x0, x1, rfl⟩ : ∃ x0 x1, xs = [x0, x1] := by
    match xs, hxs2 with
    | [a, b], _ => exact ⟨a, b, rfl⟩
  have f0 : DataW.trod enc Tryz.prog w base spare held n 3 [c0] = some x0 := by have := hf 0 _ rfl; simpa [Tryz.cells3] using this
  have f1 : DataW.trod enc Tryz.prog w base spare held n 48 [c1, c2, c3, c4] = some x1 := by have := hf 1 _ rfl; simpa [Tryz.cells48] using this
  obtain ⟨n0, e0, _, w0⟩ := DataW.trod_int Tryz.underlying3 f0
  obtain ⟨d, e1, hd⟩ := open_vote f1
  have e1' : [c1, c2, c3, c4] = [.int .i64 d.s, .int .i64 d.b.i, .int .i64 d.b.t, .string d.v] := e1
  simp only [List.cons.injEq, and_true] at e0 e1'
  obtain ⟨rfl, rfl, rfl, rfl⟩ := e1'
  subst e0
  exact ⟨n0, d, rfl, hd⟩
set_option maxRecDepth 100000 in
theorem open_deed {cs : List Value} {x : DataW H × List MemPlace} (h : DataW.trod enc Tryz.prog w base spare held fuel 53 cs = some x) : ∃ d : D, cs = dl.cs d ∧ d.ok := by
  obtain ⟨xs, n, rfl, hx, hl, hxs, hf⟩ := DataW.trod_struct Tryz.underlying53 h
  rw [Tryz.cells53] at hl
  obtain ⟨c0, c1, c2, c3, c4, c5, c6, rfl⟩ : ∃ c0 c1 c2 c3 c4 c5 c6, cs = [c0, c1, c2, c3, c4, c5, c6] := by
    match cs, hl with
    | [a, b, c, d, e, f, g], _ => exact ⟨a, b, c, d, e, f, g, rfl⟩
  have hxs2 : xs.length = 3 := hxs
  obtain ⟨x0, x1, x2, rfl⟩ : ∃ x0 x1 x2, xs = [x0, x1, x2] := by
    match xs, hxs2 with
    | [a, b, c], _ => exact ⟨a, b, c, rfl⟩
  have f0 : DataW.trod enc Tryz.prog w base spare held n 50 [c0, c1, c2, c3, c4] = some x0 := by have := hf 0 _ rfl; simpa [Tryz.cells50] using this
  have f1 : DataW.trod enc Tryz.prog w base spare held n 3 [c5] = some x1 := by have := hf 1 _ rfl; simpa [Tryz.cells3] using this
  have f2 : DataW.trod enc Tryz.prog w base spare held n 51 [c6] = some x2 := by have := hf 2 _ rfl; simpa [Tryz.cells51] using this
  obtain ⟨k, d, e0, hd⟩ := open_inner f0
  obtain ⟨n1, e1, _, w1⟩ := DataW.trod_int Tryz.underlying3 f1
  obtain ⟨n2, e2, _, w2⟩ := DataW.trod_int Tryz.underlying51 f2
  obtain ⟨kp, hkp, rfl⟩ := wf_u64 w2
  simp only [List.cons.injEq, and_true] at e0 e1 e2
  obtain ⟨rfl, rfl, rfl, rfl, rfl⟩ := e0
  subst e1 e2
  exact ⟨⟨k, d, n1, kp⟩, rfl, hd.1, hd.2, hkp⟩
set_option maxRecDepth 100000 in
theorem open_deeds {cs : List Value} {x : DataW H × List MemPlace} (h : DataW.trod enc Tryz.prog w base spare held fuel 22 cs = some x) :
    ∃ a len cap, ∃ l : List D, cs = [.slice a len cap] ∧ len = l.length ∧ AtL dl w a l ∧ l.length ≤ maxLen ∧ ∀ d ∈ l, d.ok := by
  rcases DataW.trod_slice Tryz.underlying22 h with ⟨hcs, _⟩ | ⟨a, len, cap, elems, rest, n, _, hcs, hx, hb, hl, hm, hlen, hel, hsp, hns⟩
  · exact ⟨none, 0, 0, [], hcs, rfl, Na.AtL.nil _ _, Nat.zero_le _, by simp⟩
  · have each : ∀ i, i < len → ∃ d : D, (∃ b off, some a = some (⟨b, off, none⟩ : Addr) ∧ ∀ o (ho : o < 7), w.cell? ⟨b, off + i * 7 + o, none⟩ = some ((dl.cs d)[o]'ho)) ∧ d.ok := by
      intro i hi
      have he := hel i hi
      rw [List.getElem?_eq_getElem (by omega), Option.bind_eq_some_iff, Tryz.cells53] at he
      obtain ⟨cs', hcs', ht⟩ := he
      obtain ⟨d, rfl, hwt⟩ := open_deed ht
      obtain ⟨_, _, hc⟩ := World.cells?_some hcs'
      refine ⟨d, ?_, ?_⟩
      · have hsp : a.spot = none := by
          have he := hel 0 (by omega)
          rw [List.getElem?_eq_getElem (by omega), Option.bind_eq_some_iff, Tryz.cells53] at he
          obtain ⟨cs0, hcs0, _⟩ := he
          obtain ⟨_, hl0, hc0⟩ := World.cells?_some hcs0
          have q := hc0 0 (by omega)
          rw [Addr.add_add, List.getElem?_eq_getElem (by omega)] at q
          exact spot_of (by simpa using q)
        obtain ⟨b, off, sp⟩ := a
        simp only at hsp
        subst hsp
        refine ⟨b, off, rfl, fun o ho => ?_⟩
        have q := hc o (by omega)
        rw [Na.add_n, Na.add_n, List.getElem?_eq_getElem (show o < (dl.cs d).length from ho)] at q
        exact q
      · exact hwt
    have ⟨f, hf⟩ : ∃ f : Nat → D, ∀ i, i < len → (∃ b off, some a = some (⟨b, off, none⟩ : Addr) ∧ ∀ o (ho : o < 7), w.cell? ⟨b, off + i * 7 + o, none⟩ = some ((dl.cs (f i))[o]'ho)) ∧ (f i).ok := by
      refine ⟨fun i => if h : i < len then Classical.choose (each i h) else ⟨0, ⟨0, ⟨0, 0⟩, ⟨#[]⟩⟩, 0, 0⟩, fun i hi => ?_⟩
      simp only [dif_pos hi]
      exact Classical.choose_spec (each i hi)
    refine ⟨some a, len, cap, (List.range len).map f, hcs, by simp, fun j hj => ?_, by simp; omega, fun d hd => ?_⟩
    · rw [List.length_map, List.length_range] at hj
      simp only [List.getElem_map, List.getElem_range]
      exact (hf j hj).1
    · obtain ⟨i, hi, rfl⟩ := List.mem_map.1 hd
      exact (hf i (List.mem_range.1 hi)).2
end
/-- Are deeds not too many, and too long, the device not too great? -/
structure Few (n : Int) (l : List D) : Prop where
  n : n ≤ 300
  l : l.length ≤ 25
def FwO (n : Int) (l : List D) (w : World) (e : Ending) (w' : World) : Prop := (e = .returned (.int .i64 0) ∧ w' = w) ∨ (e = .returned (.int .i64 1) ∧ Few n l ∧ w' = w)
set_option maxRecDepth 100000 in
set_option maxHeartbeats 1000000 in
theorem few_any (n : Int) (a : Option Addr) (cap : Nat) (l : List D) (w : World) (hl : l.length ≤ maxLen) (hd : AtL dl w a l) (hok : ∀ d ∈ l, d.ok) :
    Calls Tryz.prog 7 #[.int .i64 n, .slice a l.length cap] w (FwO n l w) := by
  by_cases h25 : 25 < l.length
  · go_enter Tryz.func7, Tryz.ntmps7
    go_wp2
    go_ret
    exact .inl ⟨rfl, rfl⟩
  · by_cases hn : 300 < n
    · have hd1 : decide ((25 : Int) < (l.length : Int)) = false := decide_eq_false (by omega)
      have hd2 : decide ((300 : Int) < n) = true := decide_eq_true hn
      go_enter Tryz.func7, Tryz.ntmps7
      go_wp2
      go_ret
      exact .inl ⟨rfl, rfl⟩
    · have hd1 : decide ((25 : Int) < (l.length : Int)) = false := decide_eq_false (by omega)
      have hd2 : decide ((300 : Int) < n) = false := decide_eq_false hn
      have HOK := Hid_of hok
      have HK : Hid (Few n l) := ⟨by omega, by omega⟩
      clear hok
      go_enter Tryz.func7, Tryz.ntmps7
      go_wp2
      go_loopw [5] (fun i wr => ∃ k : Nat, k ≤ l.length ∧ i = .int .i64 k ∧ wr = w) (fun i _ => l.length - (intOf i).toNat)
      case atStart => exact ⟨0, by omega, rfl, rfl⟩
      case round =>
        obtain ⟨k, hk, rfl, rfl⟩ := hrel
        by_cases hlt : k < l.length
        · obtain ⟨b, off, rfl, c0, c1, c2, c3, c4, c5, c6⟩ := getD hd k hlt
          have hsz : l[k].v.v.size ≤ 9223372036854775807 := by have := (HOK.out l[k] (List.getElem_mem hlt)).1; unfold maxLen at this; omega
          clear hd HOK
          generalize l[k].v.v = s at *
          generalize l[k].k = dk at *
          generalize l[k].v.s = dy at *
          generalize l[k].v.b.i = di at *
          generalize l[k].v.b.t = dt at *
          generalize l[k].st = ds at *
          generalize l[k].kp = dp at *
          by_cases h7 : 5000 < s.size
          · have hdd : decide ((5000 : Int) < (s.size : Int)) = true := by simp; omega
            go_wp2
            go_ret
            exact .inl ⟨rfl, rfl⟩
          · have hdd : decide ((5000 : Int) < (s.size : Int)) = false := by simp; omega
            go_wp2
            go_roundw
            case rel => exact ⟨k + 1, by omega, by go_num, by first | rfl | trivial⟩
            case measure => simp [intOf]; omega
        · have hkn : k = l.length := by omega
          subst hkn
          go_wp2
          go_ret
          exact .inr ⟨rfl, HK.out, rfl⟩
end Go.Proofs.YtlnedgjikkhplaaGreat.Du
end
section
namespace Go.Proofs.YtlnedgjikkhplaaGreat.Na
open Go.RowKit
set_option linter.unusedVariables false
open M (E V)

/-- The document's acceptor as a value. -/
abbrev aV (a : M.S) (ad : Option Addr) (c : Nat) : Value := .agg #[.int .i64 a.p.i, .int .i64 a.p.t, .int .i64 a.base, .slice ad a.l.length c]
theorem Tryz.size39 : (Tryz.prog.info? 39).map (·.size) = some 4 := by kernel_rfl
theorem res31 {fn : Func} {p u : Tmp} (h : fn.results = #[.cell p 39, .tmp u]) (tmps : Array Value) (w : World) (g : Nat) (v0 v1 v2 v3 : Value) (hp : tmps.getD p undef = .pointer (some ⟨g, 0, none⟩)) (hg : w.heap[g]? = some (.cells #[v0, v1, v2, v3] 39 (0, 0))) :
    (results fn tmps).run Tryz.prog w = .ok (.tuple #[.agg #[v0, v1, v2, v3], tmps.getD u undef]) w := by
  have hp' : tmps[p]?.getD undef = .pointer (some ⟨g, 0, none⟩) := by simpa using hp
  rw [results_cell_tmp h]
  simp [asAddr, hp', run_loadVar_row w g 39 39 #[v0, v1, v2, v3] (0, 0) _ hg Tryz.underlying39 rfl Tryz.size39]
theorem results_cell_tmps {fn : Func} {p u u' : Tmp} {ty : TypeId} (h : fn.results = #[.cell p ty, .tmp u, .tmp u']) (tmps : Array Value) (P : Program) (w : World) :
    (results fn tmps).run P w = ((asAddr (tmps.getD p undef)).run P w).andThen fun a w₁ => ((loadVar ty a).run P w₁).andThen fun v w₂ => .ok (.tuple #[v, tmps.getD u undef, tmps.getD u' undef]) w₂ := by
  simp only [results, h]
  simp [Sem.run_bind, Result.andThen]
theorem res31_3 {fn : Func} {p u u' : Tmp} (h : fn.results = #[.cell p 39, .tmp u, .tmp u']) (tmps : Array Value) (w : World) (g : Nat) (v0 v1 v2 v3 : Value) (hp : tmps.getD p undef = .pointer (some ⟨g, 0, none⟩)) (hg : w.heap[g]? = some (.cells #[v0, v1, v2, v3] 39 (0, 0))) :
    (results fn tmps).run Tryz.prog w = .ok (.tuple #[.agg #[v0, v1, v2, v3], tmps.getD u undef, tmps.getD u' undef]) w := by
  have hp' : tmps[p]?.getD undef = .pointer (some ⟨g, 0, none⟩) := by simpa using hp
  rw [results_cell_tmps h]
  simp [asAddr, hp', run_loadVar_row w g 39 39 #[v0, v1, v2, v3] (0, 0) _ hg Tryz.underlying39 rfl Tryz.size39]
set_option maxHeartbeats 1000000 in
theorem rmay_any (a : M.S) (ad : Option Addr) (c : Nat) (x : E) (w : World) : Calls Tryz.prog 60 #[aV a ad c, bV x] w fun e w' => e = .returned (.bool (M.may a x)) ∧ Below w.heap.size w w' := by
  have HM : Hid (M.may a x = (M.vld x && decide (0 ≤ M.cmpE x a.p))) := rfl
  rw [HM.out]
  clear HM
  obtain ⟨W1, HW1⟩ : ∃ W1, Hid ((w.alloc (.cells #[.int .i64 a.p.i, .int .i64 a.p.t, .int .i64 a.base, .slice ad a.l.length c] 39)).alloc (.cells #[.int .i64 x.i, .int .i64 x.t] 36) = W1) := ⟨_, rfl⟩
  have HB1 : Hid (Below w.heap.size w W1) := by rw [← HW1.out]; exact bel2 w _ _
  have hr1 : W1.heap[w.heap.size]? = some (.cells #[.int .i64 a.p.i, .int .i64 a.p.t, .int .i64 a.base, .slice ad a.l.length c] 39 (0, 0)) := by rw [← HW1.out]; exact heap_alloc2_old w _ _
  have hr2 : W1.heap[w.heap.size + 1]? = some (.cells #[.int .i64 x.i, .int .i64 x.t] 36 (0, 0)) := by rw [← HW1.out]; exact heap_alloc2_new w _ _
  have HR1 := Hid_of hr1
  have HR2 := Hid_of hr2
  obtain ⟨⟨z0, z1, z2, z3⟩, _⟩ := row4 hr1
  obtain ⟨⟨y0, y1⟩, _⟩ := row2 hr2
  have hv := rvalid_any x W1
  clear hr1 hr2
  cases hx : M.vld x with
  | true =>
    rw [hx] at hv
    rw [Bool.true_and]
    clear hx
    go_enter Tryz.func60, Tryz.ntmps60
    go_upto_region 1 with fail
    rw [HW1.out]
    go_wp2_with fail
    refine hv.mono ?_
    rintro e w2 ⟨rfl, hb2⟩
    obtain ⟨⟨x0, x1, x2, x3⟩, _⟩ := row4 (bel_row HR1.out hb2)
    obtain ⟨⟨u0, u1⟩, _⟩ := row2 (bel_row HR2.out hb2)
    have HB2 := Hid_of (bel_up HB1.out hb2 (Nat.le_refl _))
    clear hb2 hv z0 z1 z2 z3 y0 y1
    go_wp2_with fail
    refine (rcmp_any x a.p _).mono ?_
    rintro e w3 ⟨rfl, hb3⟩
    have HB3 := Hid_of (bel_up HB2.out hb3 (Nat.le_refl _))
    clear hb3
    go_wp2
    go_ret
    exact ⟨rfl, HB3.out⟩
  | false =>
    rw [hx] at hv
    rw [Bool.false_and]
    clear hx
    go_enter Tryz.func60, Tryz.ntmps60
    go_upto_region 1 with fail
    rw [HW1.out]
    go_wp2_with fail
    refine hv.mono ?_
    rintro e w2 ⟨rfl, hb2⟩
    have HB2 := Hid_of (bel_up HB1.out hb2 (Nat.le_refl _))
    clear hb2 hv
    go_wp2
    go_ret
    exact ⟨rfl, HB2.out⟩
set_option maxRecDepth 100000 in
set_option maxHeartbeats 1000000 in
theorem rvotes_any (a : M.S) (ad : Option Addr) (c : Nat) (kk : Int) (w : World) (hx : XL vl w ad c a.l) (hl : a.l.length ≤ 1024) : Calls Tryz.prog 61 #[aV a ad c, .int .i64 kk] w (RV w (M.vts a.l kk)) := by
  obtain ⟨W1, HW1⟩ : ∃ W1, Hid (w.alloc (.cells #[.int .i64 a.p.i, .int .i64 a.p.t, .int .i64 a.base, .slice ad a.l.length c] 39) = W1) := ⟨_, rfl⟩
  have hb1 : Below w.heap.size w W1 := by rw [← HW1.out]; exact bel1 w _
  have hr1 : W1.heap[w.heap.size]? = some (.cells #[.int .i64 a.p.i, .int .i64 a.p.t, .int .i64 a.base, .slice ad a.l.length c] 39 (0, 0)) := by rw [← HW1.out]; exact heap_alloc_last w _
  have HB1 := Hid_of hb1
  have HR1 := Hid_of hr1
  have HAT := Hid_of (hx.at'.keep hb1)
  clear hb1 hr1 hx
  go_enter Tryz.func61, Tryz.ntmps61
  go_wp2
  rw [HW1.out]
  clear HW1
  go_loopw [6, 5] (fun i u wr => ∃ k : Nat, k ≤ a.l.length ∧ i = .int .i64 k ∧ OwnL vl 48 wr W1.heap.size u (M.vts (a.l.take k) kk) ∧ Below W1.heap.size W1 wr) (fun i u _ => a.l.length - (intOf i).toNat)
  case atStart => exact ⟨0, Nat.zero_le _, rfl, OwnL.nil _ _ _, Below.refl _ _⟩
  case round =>
    obtain ⟨k, hk, rfl, ho, hbl⟩ := hrel
    obtain ⟨⟨z0, z1, z2, z3⟩, _⟩ := row4 (bel_row HR1.out hbl)
    obtain ⟨a1, cap1, rfl, hx1, _⟩ := ho.at
    have hlm : (M.vts (a.l.take k) kk).length ≤ 1024 := Nat.le_trans (M.vts_le _ _) (by simp; omega)
    by_cases hlt : k < a.l.length
    · obtain ⟨g0, off0, rfl, q0, q1, q2, q3⟩ := (HAT.out.keep hbl).getV k hlt
      have HT := Hid_of (M.vts_snoc a.l kk k hlt)
      have hki : (k : Int) < (a.l.length : Int) := by omega
      generalize M.vts (a.l.take k) kk = O at *
      by_cases hge : kk ≤ a.l[k].s
      · obtain ⟨a', c', w4, hrun, ho4, hr4⟩ := app1 a.l[k] ho (by have := hbl.size; omega) (by omega)
        have HB4 : Hid (Below W1.heap.size W1 w4) := hbl.trans (hr4.below (fun j hj => (ho.lt hj).1) hbl.size)
        have HO4 := Hid_of ho4
        rw [if_pos hge] at HT
        have dge : decide (kk ≤ a.l[k].s) = true := decide_eq_true hge
        clear ho hbl hx1 ho4 hr4 hge
        generalize a.l[k] = x at *
        go_wp2_with (at_builtin; refine wpList_append_known rfl _ _ 37 rfl _ _ rfl rfl _ _ (hrun _) ?_)
        go_roundw
        case rel => exact ⟨k + 1, by omega, by go_num, by rw [HT.out]; exact HO4.out, HB4.out⟩
        case measure => simp [intOf]; omega
      · have HB4 := Hid_of hbl
        have HO4 := Hid_of ho
        rw [if_neg hge] at HT
        have dge : decide (kk ≤ a.l[k].s) = false := decide_eq_false hge
        clear ho hbl hx1 hge
        generalize a.l[k] = x at *
        go_wp2
        go_roundw
        case rel => exact ⟨k + 1, by omega, by go_num, by rw [HT.out]; exact HO4.out, HB4.out⟩
        case measure => simp [intOf]; omega
    · obtain rfl : k = a.l.length := by omega
      have HQ : Hid (RV w (M.vts a.l kk) (.returned (.slice a1 (M.vts (a.l.take a.l.length) kk).length cap1)) wr) := ⟨_, rfl, by rw [List.take_length] at ho ⊢; exact ho.low HB1.out.size, bel_up HB1.out hbl (Nat.le_refl _)⟩
      clear ho hbl hx1
      go_wp2
      go_ret
      exact HQ.out
/-- What the document's acceptor is, behind a deed. -/
def DS (w : World) (a : M.S) (v : Value) (w' : World) : Prop := ∃ ad c, v = aV a ad c ∧ XL vl w' ad c a.l ∧ (∀ j, blk ad j → w.heap.size ≤ j ∧ j < w'.heap.size) ∧ Below w.heap.size w w'
theorem ds_of {w w2 w' : World} {a2 : Option Addr} {c2 m : Nat} {l : List V} {G : Nat → Prop} (hb : Below w.heap.size w w2) (hx : XL vl w2 a2 c2 l) (hbk : ∀ j, blk a2 j → m ≤ j ∧ j < w2.heap.size) (hF : Fr w2 G w' G) (hG : ∀ k, G k → w.heap.size ≤ k ∧ k < m) (hm : w.heap.size ≤ m := by omega) :
    XL vl w' a2 c2 l ∧ (∀ j, blk a2 j → w.heap.size ≤ j ∧ j < w'.heap.size) ∧ Below w.heap.size w w' :=
  ⟨hx.keepBut fun k _ hk => hF.block k (hbk k hk).2 (fun hg => by have := (hG k hg).2; have := (hbk k hk).1; omega), fun j hj => ⟨by have := (hbk j hj).1; omega, Nat.lt_of_lt_of_le (hbk j hj).2 hF.size⟩, hb.trans (hF.below (fun k hk => (hG k hk).1) hb.size)⟩
theorem f27_res : Tryz.f27.results = #[.cell 4 39, .tmp 5] := rfl
set_option maxRecDepth 100000 in
set_option maxHeartbeats 1000000 in
theorem rtrim_any (a : M.S) (ad : Option Addr) (c : Nat) (u : Int) (w : World) (hx : XL vl w ad c a.l) (hl : a.l.length ≤ 1024) : Calls Tryz.prog 27 #[aV a ad c, .int .i64 u] w fun e w' => ∃ v, e = .returned (.tuple #[v, .int .i64 (M.trn a u : Nat)]) ∧ DS w (M.trs a u) v w' := by
  obtain ⟨mu, HMU⟩ : ∃ mu, Hid (min u 1024 = mu) := ⟨_, Hid_of rfl⟩
  obtain ⟨W1, HW1⟩ : ∃ W1, Hid ((w.alloc (.cells #[.int .i64 a.p.i, .int .i64 a.p.t, .int .i64 a.base, .slice ad a.l.length c] 39)).alloc (.cells #[.int .i64 0, .int .i64 0, .int .i64 0, .slice none 0 0] 39) = W1) := ⟨_, rfl⟩
  have hb1 : Below w.heap.size w W1 := by rw [← HW1.out]; exact bel2 w _ _
  have hr1 : W1.heap[w.heap.size]? = some (.cells #[.int .i64 a.p.i, .int .i64 a.p.t, .int .i64 a.base, .slice ad a.l.length c] 39 (0, 0)) := by rw [← HW1.out]; exact heap_alloc2_old w _ _
  have hr2 : W1.heap[w.heap.size + 1]? = some (.cells #[.int .i64 0, .int .i64 0, .int .i64 0, .slice none 0 0] 39 (0, 0)) := by rw [← HW1.out]; exact heap_alloc2_new w _ _
  have hv := rvotes_any a ad c mu W1 (hx.keep hb1) hl
  have HB1 := Hid_of hb1
  have HR1 := Hid_of hr1
  have HR2 := Hid_of hr2
  obtain ⟨⟨z0, z1, z2, z3⟩, _⟩ := row4 hr1
  clear hb1 hr1 hr2 hx
  go_enter Tryz.func27, Tryz.ntmps27
  go_upto_region 1 with fail
  rw [HW1.out]
  go_wp2_with fail
  rw [HMU.out]
  refine hv.mono ?_
  rintro e w2 ⟨v2, rfl, ho2, hb2⟩
  obtain ⟨a2, c2, rfl, hx2, hbk2⟩ := ho2.at
  have hR1 := bel_row HR1.out hb2
  have hR2 := bel_row HR2.out hb2
  have hb02 := bel_up HB1.out hb2 (Nat.le_refl _)
  obtain ⟨⟨x0, x1, x2, x3⟩, xf⟩ := row4 hR1
  obtain ⟨⟨y0, y1, y2, y3⟩, yf⟩ := row4 hR2
  have xf2 := xf 2
  have xf3 := xf 3
  have yf0 := yf 0
  have yf1 := yf 1
  have yf2 := yf 2
  have yf3 := yf 3
  have hlv := M.vts_le a.l mu
  have hw : IntKind.i64.wrap ((a.l.length : Int) - ((M.vts a.l mu).length : Int)) = ((M.trn a u : Nat) : Int) := by
    unfold M.trn
    rw [HMU.out, IntKind.wrap_i64]
    omega
  have hW1 : w.heap.size + 1 < W1.heap.size := (Array.getElem?_eq_some_iff.1 HR2.out).1
  have hrow3 : (put4 ((w2.setCell ⟨w.heap.size, 3, none⟩ (.slice a2 (M.vts a.l mu).length c2)).setCell ⟨w.heap.size, 2, none⟩ (.int .i64 (max a.base mu))) (w.heap.size + 1) (.int .i64 a.p.i) (.int .i64 a.p.t) (.int .i64 (max a.base mu)) (.slice a2 (M.vts a.l mu).length c2)).heap[w.heap.size + 1]? = some (.cells #[.int .i64 a.p.i, .int .i64 a.p.t, .int .i64 (max a.base mu), .slice a2 (M.vts a.l mu).length c2] 39 (0, 0)) :=
    put4_row (((heap_setCell_other _ ⟨w.heap.size, 2, none⟩ _ _ (by simp)).trans (heap_setCell_other _ ⟨w.heap.size, 3, none⟩ _ _ (by simp))).trans hR2) _ _ _ _
  have HROW := Hid_of hrow3
  have HDS : Hid (DS w (M.trs a u) (.agg #[.int .i64 a.p.i, .int .i64 a.p.t, .int .i64 (max a.base mu), .slice a2 (M.vts a.l mu).length c2]) (put4 ((w2.setCell ⟨w.heap.size, 3, none⟩ (.slice a2 (M.vts a.l mu).length c2)).setCell ⟨w.heap.size, 2, none⟩ (.int .i64 (max a.base mu))) (w.heap.size + 1) (.int .i64 a.p.i) (.int .i64 a.p.t) (.int .i64 (max a.base mu)) (.slice a2 (M.vts a.l mu).length c2))) := by
    have hg0 : (fun k => k = w.heap.size ∨ k = w.heap.size + 1) w.heap.size := .inl rfl
    have hg1 : (fun k => k = w.heap.size ∨ k = w.heap.size + 1) (w.heap.size + 1) := .inr rfl
    have hF := fr_set (fr_set (fr_set (fr_set (fr_set (fr_set (Fr.refl w2 fun k => k = w.heap.size ∨ k = w.heap.size + 1) hg0 3 (.slice a2 (M.vts a.l mu).length c2)) hg0 2 (.int .i64 (max a.base mu))) hg1 0 (.int .i64 a.p.i)) hg1 1 (.int .i64 a.p.t)) hg1 2 (.int .i64 (max a.base mu))) hg1 3 (.slice a2 (M.vts a.l mu).length c2)
    have e : M.trs a u = ⟨a.p, max a.base mu, M.vts a.l mu⟩ := by unfold M.trs; rw [HMU.out]
    obtain ⟨q1, q2, q3⟩ := ds_of hb02 hx2 (fun j hj => ⟨(hbk2 j hj).1, (hbk2 j hj).2.2⟩) hF (fun k hk => by rcases hk with rfl | rfl <;> omega)
    rw [e]
    exact ⟨a2, c2, rfl, q1, q2, q3⟩
  clear hb2 ho2 hx2 hbk2 hR1 hR2 hb02 xf yf hlv hW1 hrow3 hv HB1 HR1 HR2 z0 z1 z2 z3 HMU HW1
  obtain ⟨tn, HTN⟩ : ∃ tn, Hid (M.trn a u = tn) := ⟨_, Hid_of rfl⟩
  rw [HTN.out] at hw
  generalize (M.vts a.l mu).length = n2 at *
  go_wp2
  refine bodyPost_ret (v := .tuple #[.agg #[.int .i64 a.p.i, .int .i64 a.p.t, .int .i64 (max a.base mu), .slice a2 n2 c2], .int .i64 tn]) ?_ rfl ⟨_, by rw [HTN.out], HDS.out⟩
  exact res31 f27_res _ _ (w.heap.size + 1) _ _ _ _ rfl HROW.out
end Go.Proofs.YtlnedgjikkhplaaGreat.Na
end
