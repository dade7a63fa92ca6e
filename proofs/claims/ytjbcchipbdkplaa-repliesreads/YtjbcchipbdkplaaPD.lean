/-
  Deeds that came in.
-/
import Derived.Test.YtjbcchipbdkplaaRK
import Derived.SliceStrings
import Derived.ChangeOld
import Derived.OpenShut
import Derived.ProofKit
namespace Go.Proofs.Ytjbcchipbdkplaa
open Go.ChangeShapes Go.WideShapes Go.ChangeAt Go.RowKit
set_option linter.unusedVariables false

/-- A deed. -/
structure Dd where
  k : Int
  c : Int
  i : Int
  val : ByteArray
def Dd.ok (d : Dd) : Prop := (Lit.int .i64 d.k).wf = true ∧ (Lit.int .i64 d.c).wf = true ∧ (Lit.int .i64 d.i).wf = true ∧ d.val.size ≤ maxLen
/-- A slice of deeds in memory. -/
def Dds (w : World) (a : Option Addr) (l : List Dd) : Prop :=
  ∀ j (h : j < l.length), ∃ b off, a = some ⟨b, off, none⟩ ∧ w.cell? ⟨b, off + j * 4, none⟩ = some (.int .i64 l[j].k) ∧ w.cell? ⟨b, off + j * 4 + 1, none⟩ = some (.int .i64 l[j].c) ∧ w.cell? ⟨b, off + j * 4 + 2, none⟩ = some (.int .i64 l[j].i) ∧ w.cell? ⟨b, off + j * 4 + 3, none⟩ = some (.string l[j].val)
theorem Dds.keep {w w' : World} {a : Option Addr} {l : List Dd} (h : Dds w a l) (hb : Below w.heap.size w w') : Dds w' a l := by
  intro j hj
  obtain ⟨b, off, rfl, h0, h1, h2, h3⟩ := h j hj
  have hk := hb.block b (World.block_lt_of_cell? w _ h0)
  have key : ∀ o v, w.cell? ⟨b, o, none⟩ = some v → w'.cell? ⟨b, o, none⟩ = some v := fun o v h => (World.cell?_of_block (w := w) (a := ⟨b, o, none⟩) hk).trans h
  exact ⟨b, off, rfl, key _ _ h0, key _ _ h1, key _ _ h2, key _ _ h3⟩
theorem Try.cells3 : Try.prog.cellsOf 3 = 1 := by kernel_rfl
theorem Try.cells9 : Try.prog.cellsOf 9 = 1 := by kernel_rfl
theorem Try.cells33 : Try.prog.cellsOf 33 = 4 := by kernel_rfl
theorem spot_of {w : World} {a : Addr} {v : Value} (h : w.cell? (a.add 0) = some v) : a.spot = none := by
  have hs := World.cell?_spot h
  simpa [Addr.add] using hs
theorem add_plain {w : World} {a : Addr} {j : Nat} {v : Value} (hs : a.spot = none) (h : w.cell? (a.add j) = some v) : ∃ b off, a = ⟨b, off, none⟩ ∧ w.cell? ⟨b, off + j, none⟩ = some v := by
  obtain ⟨b, off, spot⟩ := a
  simp only at hs
  subst hs
  refine ⟨b, off, rfl, ?_⟩
  rwa [show ((⟨b, off, none⟩ : Addr).add j) = ⟨b, off + j, none⟩ by unfold Addr.add; split <;> simp_all] at h
section
variable {H : Type} {enc : TypeId × Value → H} {w : World} {base : Nat} {spare : Nat → Bool} {held : Bool} {fuel : Nat}
set_option maxRecDepth 100000 in
theorem open_deed {cs : List Value} {x : DataW H × List MemPlace} (h : DataW.trod enc Try.prog w base spare held fuel 33 cs = some x) : ∃ d : Dd, cs = [.int .i64 d.k, .int .i64 d.c, .int .i64 d.i, .string d.val] ∧ d.ok := by
  obtain ⟨xs, n, rfl, hx, hl, hxs, hf⟩ := DataW.trod_struct Try.underlying33 h
  rw [Try.cells33] at hl
  obtain ⟨c0, c1, c2, c3, rfl⟩ : ∃ c0 c1 c2 c3, cs = [c0, c1, c2, c3] := by
    match cs, hl with
    | [a, b, c, d], _ => exact ⟨a, b, c, d, rfl⟩
  have hxs3 : xs.length = 4 := hxs
  obtain ⟨x0, x1, x2, x3, rfl⟩ : ∃ x0 x1 x2 x3, xs = [x0, x1, x2, x3] := by
    match xs, hxs3 with
    | [a, b, c, d], _ => exact ⟨a, b, c, d, rfl⟩
  have f0 : DataW.trod enc Try.prog w base spare held n 3 [c0] = some x0 := by have := hf 0 _ rfl; simpa [Try.cells3] using this
  have f1 : DataW.trod enc Try.prog w base spare held n 3 [c1] = some x1 := by have := hf 1 _ rfl; simpa [Try.cells3] using this
  have f2 : DataW.trod enc Try.prog w base spare held n 3 [c2] = some x2 := by have := hf 2 _ rfl; simpa [Try.cells3] using this
  have f3 : DataW.trod enc Try.prog w base spare held n 9 [c3] = some x3 := by have := hf 3 _ rfl; simpa [Try.cells9] using this
  obtain ⟨n0, e0, _, w0⟩ := DataW.trod_int Try.underlying3 f0
  obtain ⟨n1, e1, _, w1⟩ := DataW.trod_int Try.underlying3 f1
  obtain ⟨n2, e2, _, w2⟩ := DataW.trod_int Try.underlying3 f2
  obtain ⟨s3, e3, _, w3⟩ := DataW.trod_string Try.underlying9 f3
  simp only [List.cons.injEq, and_true] at e0 e1 e2 e3
  subst e0 e1 e2 e3
  exact ⟨⟨n0, n1, n2, s3⟩, rfl, w0, w1, w2, w3⟩
set_option maxRecDepth 100000 in
theorem open_deeds {cs : List Value} {x : DataW H × List MemPlace} (h : DataW.trod enc Try.prog w base spare held fuel 22 cs = some x) :
    ∃ a len cap, ∃ l : List Dd, cs = [.slice a len cap] ∧ len = l.length ∧ Dds w a l ∧ l.length ≤ maxLen ∧ ∀ d ∈ l, d.ok := by
  rcases DataW.trod_slice Try.underlying22 h with ⟨hcs, _⟩ | ⟨a, len, cap, elems, rest, n, _, hcs, _, hb, hl, hm, hlen, hel, hsp, hns⟩
  · exact ⟨none, 0, 0, [], hcs, rfl, fun j h => by simp at h, Nat.zero_le _, by simp⟩
  · have each : ∀ i, i < len → ∃ d : Dd, (∃ b off, some a = some (⟨b, off, none⟩ : Addr) ∧ w.cell? ⟨b, off + i * 4, none⟩ = some (.int .i64 d.k) ∧ w.cell? ⟨b, off + i * 4 + 1, none⟩ = some (.int .i64 d.c) ∧ w.cell? ⟨b, off + i * 4 + 2, none⟩ = some (.int .i64 d.i) ∧ w.cell? ⟨b, off + i * 4 + 3, none⟩ = some (.string d.val)) ∧ d.ok := by
      intro i hi
      have he := hel i hi
      rw [List.getElem?_eq_getElem (by omega), Option.bind_eq_some_iff, Try.cells33] at he
      obtain ⟨cs', hcs', ht⟩ := he
      obtain ⟨d, rfl, hok⟩ := open_deed ht
      obtain ⟨_, _, hc⟩ := World.cells?_some hcs'
      refine ⟨d, ?_, hok⟩
      have k0 : w.cell? ((a.add (i * 4)).add 0) = some (.int .i64 d.k) := hc 0 (by omega)
      have k1 : w.cell? ((a.add (i * 4)).add 1) = some (.int .i64 d.c) := hc 1 (by omega)
      have k2 : w.cell? ((a.add (i * 4)).add 2) = some (.int .i64 d.i) := hc 2 (by omega)
      have k3 : w.cell? ((a.add (i * 4)).add 3) = some (.string d.val) := hc 3 (by omega)
      rw [Addr.add_add] at k0 k1 k2 k3
      have hsp : a.spot = none := by
        have he := hel 0 (by omega)
        rw [List.getElem?_eq_getElem (by omega), Option.bind_eq_some_iff, Try.cells33] at he
        obtain ⟨cs0, hcs0, _⟩ := he
        obtain ⟨_, hl0, hc0⟩ := World.cells?_some hcs0
        have q := hc0 0 (by omega)
        rw [Addr.add_add, List.getElem?_eq_getElem (by omega)] at q
        exact spot_of (by simpa using q)
      obtain ⟨b, off, rfl, k0'⟩ := add_plain hsp k0
      obtain ⟨b', off', e, k1'⟩ := add_plain rfl k1
      cases e
      obtain ⟨b', off', e, k2'⟩ := add_plain rfl k2
      cases e
      obtain ⟨b', off', e, k3'⟩ := add_plain rfl k3
      cases e
      exact ⟨b, off, rfl, k0', k1', k2', k3'⟩
    have ⟨f, hf⟩ : ∃ f : Nat → Dd, ∀ i, i < len → (∃ b off, some a = some (⟨b, off, none⟩ : Addr) ∧ w.cell? ⟨b, off + i * 4, none⟩ = some (.int .i64 (f i).k) ∧ w.cell? ⟨b, off + i * 4 + 1, none⟩ = some (.int .i64 (f i).c) ∧ w.cell? ⟨b, off + i * 4 + 2, none⟩ = some (.int .i64 (f i).i) ∧ w.cell? ⟨b, off + i * 4 + 3, none⟩ = some (.string (f i).val)) ∧ (f i).ok := by
      refine ⟨fun i => if h : i < len then Classical.choose (each i h) else ⟨0, 0, 0, ByteArray.empty⟩, fun i hi => ?_⟩
      simp only [dif_pos hi]
      exact Classical.choose_spec (each i hi)
    refine ⟨some a, len, cap, (List.range len).map f, hcs, by simp, fun j hj => ?_, by simp; omega, fun d hd => ?_⟩
    · rw [List.length_map, List.length_range] at hj
      simp only [List.getElem_map, List.getElem_range]
      exact (hf j hj).1
    · obtain ⟨i, hi, rfl⟩ := List.mem_map.1 hd
      exact (hf i (List.mem_range.1 hi)).2
end
theorem own : ownKnob Try.prog.godebug = none := by kernel_rfl
theorem laidOut : laidOutB Try.prog = true := by kernel_rfl
/-- Are deeds not too many, and too long? -/
def Few (l : List Dd) : Prop := l.length ≤ 100 ∧ ∀ d ∈ l, d.val.size ≤ 5000
set_option maxRecDepth 100000 in
set_option maxHeartbeats 1000000 in
theorem few_any (a : Option Addr) (cap : Nat) (l : List Dd) (w : World) (hl : l.length ≤ maxLen) (hd : Dds w a l) (hok : ∀ d ∈ l, d.ok) :
    Calls Try.prog 8 #[.slice a l.length cap] w fun e w' => ∃ b : Bool, e = .returned (.int .i64 (if b then 1 else 0)) ∧ (b = true → Few l) ∧ w' = w := by
  by_cases h80 : 100 < l.length
  · go_enter Try.func8, Try.ntmps8
    go_wp2
    go_ret
    exact ⟨false, rfl, (fun h => by cases h), rfl⟩
  · have HOK := Hid_of hok
    clear hok
    go_enter Try.func8, Try.ntmps8
    go_wp2
    go_loopw [3] (fun i wr => ∃ k : Nat, k ≤ l.length ∧ i = .int .i64 k ∧ wr = w ∧ Hid (∀ j (h : j < l.length), j < k → l[j].val.size ≤ 5000)) (fun i _ => l.length - (intOf i).toNat)
    case atStart => exact ⟨0, by omega, rfl, rfl, fun j h hj => by omega⟩
    case round =>
      obtain ⟨k, hk, rfl, rfl, HF⟩ := hrel
      by_cases hlt : k < l.length
      · obtain ⟨b, off, rfl, c0, c1, c2, c3⟩ := hd k hlt
        have hsz : l[k].val.size ≤ 9223372036854775807 := by have := (HOK.out l[k] (List.getElem_mem hlt)).2.2.2; unfold maxLen at this; omega
        have HN : Hid (l[k].val.size ≤ 5000 → ∀ j (h : j < l.length), j < k + 1 → l[j].val.size ≤ 5000) := fun h j hj hjk => by
          rcases Nat.lt_or_ge j k with h' | h'
          · exact HF.out j hj h'
          · obtain rfl : j = k := by omega
            exact h
        clear hd HOK HF
        generalize l[k].val = s at *
        generalize l[k].k = dk at *
        generalize l[k].c = dy at *
        generalize l[k].i = di at *
        by_cases h7 : 5000 < s.size
        · have hdd : decide ((5000 : Int) < (s.size : Int)) = true := by simp; omega
          go_wp2
          go_ret
          exact ⟨false, rfl, (fun h => by cases h), rfl⟩
        · have hdd : decide ((5000 : Int) < (s.size : Int)) = false := by simp; omega
          have HN2 := Hid_of (HN.out (by omega))
          clear HN
          go_wp2
          go_roundw
          case rel => exact ⟨k + 1, by omega, by go_num, by first | rfl | trivial, HN2.out⟩
          case measure => simp [intOf]; omega
      · have hkn : k = l.length := by omega
        subst hkn
        have HK : Hid (Few l) := ⟨by omega, fun d hd => by obtain ⟨i, hi, rfl⟩ := List.getElem_of_mem hd; exact HF.out i hi hi⟩
        clear HF
        go_wp2
        go_ret
        exact ⟨true, rfl, fun _ => HK.out, rfl⟩
end Go.Proofs.Ytjbcchipbdkplaa
