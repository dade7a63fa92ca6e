/-
  Deeds that came in.
-/
import Derived.Test.YticjilpomdahbaaGreatFA
import Derived.SliceStrings
import Derived.ChangeOld
import Derived.OpenShut
import Derived.ProofKit
namespace Go.Proofs.YticjilpomdahbaaGreat
open Go.ChangeShapes Go.WideShapes Go.ChangeAt Go.RowKit
set_option linter.unusedVariables false

/-- A deed. -/
structure Dd where
  k : Int
  st : Int
  p : Int
  q : Int
  txt : ByteArray
  keep : Nat
def Dd.ok (d : Dd) : Prop := True ∧ d.txt.size ≤ maxLen ∧ d.keep < 18446744073709551616
/-- A deed's cells. -/
def Dd.cs (d : Dd) : List Value := [.int .i64 d.k, .int .i64 d.st, .int .i64 d.p, .int .i64 d.q, .string d.txt, .int .u64 (d.keep : Int)]
/-- A slice of deeds in memory. -/
def Dds (w : World) (a : Option Addr) (l : List Dd) : Prop :=
  ∀ j (h : j < l.length), ∃ b off, a = some ⟨b, off, none⟩ ∧ ∀ o (ho : o < 6), w.cell? ⟨b, off + j * 6 + o, none⟩ = some ((l[j].cs)[o]'ho)
theorem Dds.keep {w w' : World} {a : Option Addr} {l : List Dd} (h : Dds w a l) (hb : Below w.heap.size w w') : Dds w' a l := by
  intro j hj
  obtain ⟨b, off, rfl, h0⟩ := h j hj
  have hk := hb.block b (World.block_lt_of_cell? w _ (h0 0 (by omega)))
  exact ⟨b, off, rfl, fun o ho => (World.cell?_of_block (w := w) (a := ⟨b, off + j * 6 + o, none⟩) hk).trans (h0 o ho)⟩
theorem Dds.get {w : World} {a : Option Addr} {l : List Dd} (h : Dds w a l) (j : Nat) (hj : j < l.length) : ∃ b off, a = some ⟨b, off, none⟩ ∧ w.cell? ⟨b, off + j * 6, none⟩ = some (.int .i64 l[j].k) ∧ w.cell? ⟨b, off + j * 6 + 1, none⟩ = some (.int .i64 l[j].st) ∧ w.cell? ⟨b, off + j * 6 + 2, none⟩ = some (.int .i64 l[j].p) ∧ w.cell? ⟨b, off + j * 6 + 3, none⟩ = some (.int .i64 l[j].q) ∧ w.cell? ⟨b, off + j * 6 + 4, none⟩ = some (.string l[j].txt) ∧ w.cell? ⟨b, off + j * 6 + 5, none⟩ = some (.int .u64 (l[j].keep : Int)) := by
  obtain ⟨b, off, e, h0⟩ := h j hj
  exact ⟨b, off, e, h0 0 (by omega), h0 1 (by omega), h0 2 (by omega), h0 3 (by omega), h0 4 (by omega), h0 5 (by omega)⟩
theorem Tryz.cells3 : Tryz.prog.cellsOf 3 = 1 := by kernel_rfl
theorem Tryz.cells9 : Tryz.prog.cellsOf 9 = 1 := by kernel_rfl
theorem Tryz.cells24 : Tryz.prog.cellsOf 24 = 2 := by kernel_rfl
theorem Tryz.cells25 : Tryz.prog.cellsOf 25 = 1 := by kernel_rfl
theorem Tryz.cells27 : Tryz.prog.cellsOf 27 = 6 := by kernel_rfl
theorem wf_i64 {a : Int} (h : (Lit.int .i64 a).wf = true) : -9223372036854775808 ≤ a ∧ a ≤ 9223372036854775807 := by
  have := bounds_i64 h
  omega
theorem wf_u64 {a : Int} (h : (Lit.int .u64 a).wf = true) : ∃ x : Nat, x < 18446744073709551616 ∧ a = (x : Int) := by
  have h1 : 0 ≤ a ∧ a ≤ 18446744073709551615 := by
    simp [Lit.wf, IntKind.min, IntKind.max, IntKind.bits, IntKind.signed] at h
    omega
  exact ⟨a.toNat, by omega, by omega⟩
theorem wf_u8 {a : Int} (h : (Lit.int .u8 a).wf = true) : ∃ x : UInt8, a = (x.toNat : Int) := by
  have h1 : 0 ≤ a ∧ a ≤ 255 := by
    simp [Lit.wf, IntKind.min, IntKind.max, IntKind.bits, IntKind.signed] at h
    omega
  refine ⟨UInt8.ofNat a.toNat, ?_⟩
  rw [UInt8.toNat_ofNat']
  omega
theorem spot_of {w : World} {a : Addr} {v : Value} (h : w.cell? (a.add 0) = some v) : a.spot = none := by
  have hs := World.cell?_spot h
  simpa [Addr.add] using hs
theorem add_plain {w : World} {a : Addr} {j : Nat} {v : Value} (hs : a.spot = none) (h : w.cell? (a.add j) = some v) : ∃ b off, a = ⟨b, off, none⟩ ∧ w.cell? ⟨b, off + j, none⟩ = some v := by
  obtain ⟨b, off, spot⟩ := a
  simp only at hs
  subst hs
  refine ⟨b, off, rfl, ?_⟩
  rwa [add_none] at h
section
variable {H : Type} {enc : TypeId × Value → H} {w : World} {base : Nat} {spare : Nat → Bool} {held : Bool} {fuel : Nat}
set_option maxRecDepth 100000 in
theorem open_place {cs : List Value} {x : DataW H × List MemPlace} (h : DataW.trod enc Tryz.prog w base spare held fuel 24 cs = some x) : ∃ p q : Int, cs = [.int .i64 p, .int .i64 q] := by
  obtain ⟨xs, n, rfl, hx, hl, hxs, hf⟩ := DataW.trod_struct Tryz.underlying24 h
  rw [Tryz.cells24] at hl
  obtain ⟨c0, c1, rfl⟩ : ∃ c0 c1, cs = [c0, c1] := by
    match cs, hl with
    | [a, b], _ => exact ⟨a, b, rfl⟩
  have hxs2 : xs.length = 2 := hxs
  obtain ⟨x0, x1, rfl⟩ : ∃ x0 x1, xs = [x0, x1] := by
    match xs, hxs2 with
    | [a, b], _ => exact ⟨a, b, rfl⟩
  have f0 : DataW.trod enc Tryz.prog w base spare held n 3 [c0] = some x0 := by have := hf 0 _ rfl; simpa [Tryz.cells3] using this
  have f1 : DataW.trod enc Tryz.prog w base spare held n 3 [c1] = some x1 := by have := hf 1 _ rfl; simpa [Tryz.cells3] using this
  obtain ⟨n0, e0, _, w0⟩ := DataW.trod_int Tryz.underlying3 f0
  obtain ⟨n1, e1, _, w1⟩ := DataW.trod_int Tryz.underlying3 f1
  simp only [List.cons.injEq, and_true] at e0 e1
  subst e0 e1
  exact ⟨n0, n1, rfl⟩
set_option maxRecDepth 100000 in
theorem open_deed {cs : List Value} {x : DataW H × List MemPlace} (h : DataW.trod enc Tryz.prog w base spare held fuel 27 cs = some x) : ∃ d : Dd, cs = d.cs ∧ d.ok := by
  obtain ⟨xs, n, rfl, hx, hl, hxs, hf⟩ := DataW.trod_struct Tryz.underlying27 h
  rw [Tryz.cells27] at hl
  obtain ⟨c0, c1, c2, c3, c4, c5, rfl⟩ : ∃ c0 c1 c2 c3 c4 c5, cs = [c0, c1, c2, c3, c4, c5] := by
    match cs, hl with
    | [a, b, c, d, e, f], _ => exact ⟨a, b, c, d, e, f, rfl⟩
  have hxs5 : xs.length = 5 := hxs
  obtain ⟨x0, x1, x2, x3, x4, rfl⟩ : ∃ x0 x1 x2 x3 x4, xs = [x0, x1, x2, x3, x4] := by
    match xs, hxs5 with
    | [a, b, c, d, e], _ => exact ⟨a, b, c, d, e, rfl⟩
  have f0 : DataW.trod enc Tryz.prog w base spare held n 3 [c0] = some x0 := by have := hf 0 _ rfl; simpa [Tryz.cells3] using this
  have f1 : DataW.trod enc Tryz.prog w base spare held n 3 [c1] = some x1 := by have := hf 1 _ rfl; simpa [Tryz.cells3] using this
  have f2 : DataW.trod enc Tryz.prog w base spare held n 24 [c2, c3] = some x2 := by have := hf 2 _ rfl; simpa [Tryz.cells24] using this
  have f3 : DataW.trod enc Tryz.prog w base spare held n 9 [c4] = some x3 := by have := hf 3 _ rfl; simpa [Tryz.cells9] using this
  have f4 : DataW.trod enc Tryz.prog w base spare held n 25 [c5] = some x4 := by have := hf 4 _ rfl; simpa [Tryz.cells25] using this
  obtain ⟨n0, e0, _, w0⟩ := DataW.trod_int Tryz.underlying3 f0
  obtain ⟨n1, e1, _, w1⟩ := DataW.trod_int Tryz.underlying3 f1
  obtain ⟨n2, n3, e2⟩ := open_place f2
  obtain ⟨s3, e3, _, w3⟩ := DataW.trod_string Tryz.underlying9 f3
  obtain ⟨n4, e4, _, w4⟩ := DataW.trod_int Tryz.underlying25 f4
  obtain ⟨k4, hk4, rfl⟩ := wf_u64 w4
  simp only [List.cons.injEq, and_true] at e0 e1 e2 e3 e4
  obtain ⟨rfl, rfl⟩ := e2
  subst e0 e1 e3 e4
  exact ⟨⟨n0, n1, n2, n3, s3, k4⟩, rfl, trivial, w3, hk4⟩
set_option maxRecDepth 100000 in
theorem open_deeds {cs : List Value} {x : DataW H × List MemPlace} (h : DataW.trod enc Tryz.prog w base spare held fuel 22 cs = some x) :
    ∃ a len cap, ∃ l : List Dd, cs = [.slice a len cap] ∧ len = l.length ∧ Dds w a l ∧ l.length ≤ maxLen ∧ ∀ d ∈ l, d.ok := by
  rcases DataW.trod_slice Tryz.underlying22 h with ⟨hcs, _⟩ | ⟨a, len, cap, elems, rest, n, _, hcs, _, hb, hl, hm, hlen, hel, hsp, hns⟩
  · exact ⟨none, 0, 0, [], hcs, rfl, fun j h => by simp at h, Nat.zero_le _, by simp⟩
  · have each : ∀ i, i < len → ∃ d : Dd, (∃ b off, some a = some (⟨b, off, none⟩ : Addr) ∧ ∀ o (ho : o < 6), w.cell? ⟨b, off + i * 6 + o, none⟩ = some ((d.cs)[o]'ho)) ∧ d.ok := by
      intro i hi
      have he := hel i hi
      rw [List.getElem?_eq_getElem (by omega), Option.bind_eq_some_iff, Tryz.cells27] at he
      obtain ⟨cs', hcs', ht⟩ := he
      obtain ⟨d, rfl, hok⟩ := open_deed ht
      obtain ⟨_, _, hc⟩ := World.cells?_some hcs'
      refine ⟨d, ?_, hok⟩
      have hsp : a.spot = none := by
        have he := hel 0 (by omega)
        rw [List.getElem?_eq_getElem (by omega), Option.bind_eq_some_iff, Tryz.cells27] at he
        obtain ⟨cs0, hcs0, _⟩ := he
        obtain ⟨_, hl0, hc0⟩ := World.cells?_some hcs0
        have q := hc0 0 (by omega)
        rw [Addr.add_add, List.getElem?_eq_getElem (by omega)] at q
        exact spot_of (by simpa using q)
      obtain ⟨b, off, sp⟩ := a
      simp only at hsp
      subst hsp
      refine ⟨b, off, rfl, fun o ho => ?_⟩
      have q := hc o (by omega)
      rw [add_none, add_none, List.getElem?_eq_getElem (show o < d.cs.length from ho)] at q
      exact q
    have ⟨f, hf⟩ : ∃ f : Nat → Dd, ∀ i, i < len → (∃ b off, some a = some (⟨b, off, none⟩ : Addr) ∧ ∀ o (ho : o < 6), w.cell? ⟨b, off + i * 6 + o, none⟩ = some (((f i).cs)[o]'ho)) ∧ (f i).ok := by
      refine ⟨fun i => if h : i < len then Classical.choose (each i h) else ⟨0, 0, 0, 0, ByteArray.empty, 0⟩, fun i hi => ?_⟩
      simp only [dif_pos hi]
      exact Classical.choose_spec (each i hi)
    refine ⟨some a, len, cap, (List.range len).map f, hcs, by simp, fun j hj => ?_, by simp; omega, fun d hd => ?_⟩
    · rw [List.length_map, List.length_range] at hj
      simp only [List.getElem_map, List.getElem_range]
      exact (hf j hj).1
    · obtain ⟨i, hi, rfl⟩ := List.mem_map.1 hd
      exact (hf i (List.mem_range.1 hi)).2
end
theorem own : ownKnob Tryz.prog.godebug = none := by kernel_rfl
theorem laidOut : laidOutB Tryz.prog = true := by kernel_rfl
/-- Are deeds not too many, and too long, the device not too great? -/
def Few (n : Int) (l : List Dd) : Prop := l.length ≤ 25 ∧ n ≤ 400 ∧ ∀ d ∈ l, d.txt.size ≤ 3000
def FewOut (n : Int) (l : List Dd) (w : World) (e : Ending) (w' : World) : Prop := ∃ b : Bool, e = .returned (.int .i64 (bif b then 1 else 0)) ∧ (b = true → Few n l) ∧ w' = w
set_option maxRecDepth 100000 in
set_option maxHeartbeats 1000000 in
theorem few_any (n : Int) (a : Option Addr) (cap : Nat) (l : List Dd) (w : World) (hl : l.length ≤ maxLen) (hd : Dds w a l) (hok : ∀ d ∈ l, d.ok) :
    Calls Tryz.prog 5 #[.int .i64 n, .slice a l.length cap] w (FewOut n l w) := by
  have HOK := Hid_of hok
  clear hok
  unfold maxLen at hl
  by_cases h40 : 25 < l.length
  · go_enter Tryz.func5, Tryz.ntmps5
    go_wp2
    go_ret
    exact ⟨false, rfl, (fun h => by cases h), rfl⟩
  · by_cases h400 : 400 < n
    · have hd3 : decide (400 < n) = true := by simpa using h400
      go_enter Tryz.func5, Tryz.ntmps5
      go_wp2
      go_ret
      exact ⟨false, rfl, (fun h => by cases h), rfl⟩
    · have hd3 : decide (400 < n) = false := by simpa using h400
      have hd4 : decide ((25 : Int) < (l.length : Int)) = false := by simp; omega
      go_enter Tryz.func5, Tryz.ntmps5
      go_wp2
      go_loopw [5] (fun i wr => ∃ k : Nat, k ≤ l.length ∧ i = .int .i64 k ∧ wr = w ∧ Hid (∀ j (h : j < l.length), j < k → l[j].txt.size ≤ 3000)) (fun i _ => l.length - (intOf i).toNat)
      case atStart => exact ⟨0, by omega, rfl, rfl, fun j h hj => by omega⟩
      case round =>
        obtain ⟨k, hk, rfl, rfl, HF⟩ := hrel
        by_cases hlt : k < l.length
        · obtain ⟨b, off, rfl, c0, c1, c2, c3, c4, c5⟩ := hd.get k hlt
          have hsz : l[k].txt.size ≤ 9223372036854775807 := by have := (HOK.out l[k] (List.getElem_mem hlt)).2.1; unfold maxLen at this; omega
          have HN : Hid (l[k].txt.size ≤ 3000 → ∀ j (h : j < l.length), j < k + 1 → l[j].txt.size ≤ 3000) := fun h j hj hjk => by
            rcases Nat.lt_or_ge j k with h' | h'
            · exact HF.out j hj h'
            · obtain rfl : j = k := by omega
              exact h
          clear hd HOK HF c0 c1 c2 c3 c5
          generalize l[k].txt = s at *
          by_cases h7 : 3000 < s.size
          · have hdd : decide ((3000 : Int) < (s.size : Int)) = true := by simp; omega
            go_wp2
            go_ret
            exact ⟨false, rfl, (fun h => by cases h), rfl⟩
          · have hdd : decide ((3000 : Int) < (s.size : Int)) = false := by simp; omega
            have HN2 := Hid_of (HN.out (by omega))
            clear HN
            go_wp2
            go_roundw
            case rel => exact ⟨k + 1, by omega, by go_num, by first | rfl | trivial, HN2.out⟩
            case measure => simp [intOf]; omega
        · have hkn : k = l.length := by omega
          subst hkn
          have HK : Hid (Few n l) := ⟨by omega, by omega, fun d hd => by obtain ⟨i, hi, rfl⟩ := List.getElem_of_mem hd; exact HF.out i hi hi⟩
          clear HF
          go_wp2
          go_ret
          exact ⟨true, rfl, fun _ => HK.out, rfl⟩
end Go.Proofs.YticjilpomdahbaaGreat
