/-
  Items that came in, as the walks of this seat take them; and whether they are few.
-/
import Derived.Test.YtanpplndoemgoaaH
import Derived.SliceStrings
import Derived.ChangeOld
namespace Go.Proofs.Ytanpplndoemgoaa
open Go.ChangeShapes Go.WideShapes Go.ChangeAt Go.RowKit
set_option linter.unusedVariables false

/-- An item as it lies in memory: what it is, and where its rows lie. -/
structure It where
  x : M.Item
  ia : Option Addr
  icap : Nat
  ta : Option Addr
  tcap : Nat
def It.v0 (it : It) : Value := .int .i64 it.x.kind
def It.v1 (it : It) : Value := .int .i64 it.x.n
def It.v2 (it : It) : Value := .string (ofL it.x.text)
def It.v3 (it : It) : Value := .slice it.ia it.x.ints.length it.icap
def It.v4 (it : It) : Value := .slice it.ta it.x.texts.length it.tcap
abbrev strV : List UInt8 → Value := fun s => Value.string (ofL s)
structure ItOk (w : World) (it : It) : Prop where
  n : -9223372036854775808 ≤ it.x.n ∧ it.x.n ≤ 9223372036854775807
  text : it.x.text.length ≤ maxLen
  ints : At w it.ia (Value.int .i64) it.x.ints
  intsL : it.x.ints.length ≤ maxLen
  intsB : ∀ n ∈ it.x.ints, -9223372036854775808 ≤ n ∧ n ≤ 9223372036854775807
  texts : At w it.ta strV it.x.texts
  textsL : it.x.texts.length ≤ maxLen
  textsB : ∀ s ∈ it.x.texts, s.length ≤ maxLen
theorem ItOk.keep {w w' : World} {it : It} (h : ItOk w it) (hb : Below w.heap.size w w') : ItOk w' it := ⟨h.n, h.text, h.ints.keep hb, h.intsL, h.intsB, h.texts.keep hb, h.textsL, h.textsB⟩

/-- Items in memory. -/
def Items (w : World) (a : Option Addr) (l : List It) : Prop :=
  ∀ j (h : j < l.length), ItOk w l[j] ∧ ∃ b off, a = some ⟨b, off, none⟩ ∧ w.cell? ⟨b, off + j * 5, none⟩ = some l[j].v0 ∧ w.cell? ⟨b, off + j * 5 + 1, none⟩ = some l[j].v1 ∧ w.cell? ⟨b, off + j * 5 + 2, none⟩ = some l[j].v2 ∧ w.cell? ⟨b, off + j * 5 + 3, none⟩ = some l[j].v3 ∧ w.cell? ⟨b, off + j * 5 + 4, none⟩ = some l[j].v4
theorem cell_keep {w w' : World} {p : Addr} {v : Value} (h : w.cell? p = some v) (hb : Below w.heap.size w w') : w'.cell? p = some v := (hb.cell (World.block_lt_of_cell? w _ h)).trans h
theorem Items.keep {w w' : World} {a : Option Addr} {l : List It} (h : Items w a l) (hb : Below w.heap.size w w') : Items w' a l := by
  intro j hj
  obtain ⟨ok, b, off, rfl, c0, c1, c2, c3, c4⟩ := h j hj
  exact ⟨ok.keep hb, b, off, rfl, cell_keep c0 hb, cell_keep c1 hb, cell_keep c2 hb, cell_keep c3 hb, cell_keep c4 hb⟩

theorem Try.cells3 : Try.prog.cellsOf 3 = 1 := by kernel_rfl
theorem Try.cells9 : Try.prog.cellsOf 9 = 1 := by kernel_rfl
theorem Try.cells31 : Try.prog.cellsOf 31 = 1 := by kernel_rfl
theorem Try.cells32 : Try.prog.cellsOf 32 = 1 := by kernel_rfl
theorem Try.cells34 : Try.prog.cellsOf 34 = 5 := by kernel_rfl
theorem wfi {a : Int} (h : (Lit.int .i64 a).wf = true) : -9223372036854775808 ≤ a ∧ a ≤ 9223372036854775807 := by
  have := bounds_i64 h
  omega
theorem spot_of {w : World} {a : Addr} {v : Value} (h : w.cell? (a.add 0) = some v) : a.spot = none := by
  have hs := World.cell?_spot h
  simpa [Addr.add] using hs
theorem add_plain {w : World} {a : Addr} {j : Nat} {v : Value} (hs : a.spot = none) (h : w.cell? (a.add j) = some v) : ∃ b off, a = ⟨b, off, none⟩ ∧ w.cell? ⟨b, off + j, none⟩ = some v := by
  obtain ⟨b, off, spot⟩ := a
  simp only at hs
  subst hs
  refine ⟨b, off, rfl, ?_⟩
  rwa [show ((⟨b, off, none⟩ : Addr).add j) = ⟨b, off + j, none⟩ by unfold Addr.add; split <;> simp_all] at h
theorem ints_at2 {w : World} {a : Addr} {zs : List Int} {len : Nat} (hc : ∀ i, i < zs.length → w.cell? (a.add i) = some (.int .i64 (zs.getD i 0))) : At w (some a) (Value.int .i64) (zs.take len) := by
  intro j hj
  rw [List.length_take] at hj
  obtain ⟨b, off, rfl, h⟩ := add_plain (spot_of (hc 0 (by omega))) (hc j (by omega))
  refine ⟨b, off, rfl, ?_⟩
  rw [h]
  simp [show j < zs.length by omega]
theorem strs_at2 {w : World} {a : Addr} {ss : List ByteArray} {len : Nat} (hc : ∀ i, i < ss.length → w.cell? (a.add i) = some (.string (ss.getD i ByteArray.empty))) : At w (some a) strV ((ss.take len).map fun s => s.data.toList) := by
  intro j hj
  rw [List.length_map, List.length_take] at hj
  obtain ⟨b, off, rfl, h⟩ := add_plain (spot_of (hc 0 (by omega))) (hc j (by omega))
  refine ⟨b, off, rfl, ?_⟩
  rw [h]
  simp [show j < ss.length by omega, ofL_of]

section
variable {H : Type} {enc : TypeId × Value → H} {w : World} {base : Nat} {spare : Nat → Bool} {held : Bool} {fuel : Nat}

theorem open_rowI {cs : List Value} {x : DataW H × List MemPlace} (h : DataW.trod enc Try.prog w base spare held fuel 31 cs = some x) :
    ∃ a len cap, ∃ l : List Int, cs = [.slice a len cap] ∧ len = l.length ∧ At w a (Value.int .i64) l ∧ l.length ≤ maxLen ∧ ∀ n ∈ l, -9223372036854775808 ≤ n ∧ n ≤ 9223372036854775807 := by
  rcases open_ints Try.underlying31 Try.underlying3 Try.cells3 h with ⟨hcs, _⟩ | ⟨a, ln, c, zs, hcs, _, hl, hm, hz, hx, hcell, hws⟩
  · exact ⟨none, 0, 0, [], hcs, rfl, fun j h => by simp at h, Nat.zero_le _, fun n h => by cases h⟩
  · have e : (zs.take ln).length = ln := by
      rw [List.length_take, hz]
      split <;> omega
    exact ⟨some a, ln, c, zs.take ln, hcs, e.symm, ints_at2 hcell, by omega, fun n h => wfi (hws n (List.mem_of_mem_take h))⟩
theorem open_rowS {cs : List Value} {x : DataW H × List MemPlace} (h : DataW.trod enc Try.prog w base spare held fuel 32 cs = some x) :
    ∃ a len cap, ∃ l : List (List UInt8), cs = [.slice a len cap] ∧ len = l.length ∧ At w a strV l ∧ l.length ≤ maxLen ∧ ∀ s ∈ l, s.length ≤ maxLen := by
  rcases open_strings Try.underlying32 Try.underlying9 Try.cells9 h with ⟨hcs, _⟩ | ⟨a, ln, c, ss, hcs, _, hl, hm, hz, hx, hcell, hws⟩
  · exact ⟨none, 0, 0, [], hcs, rfl, fun j h => by simp at h, Nat.zero_le _, fun n h => by cases h⟩
  · have e : ((ss.take ln).map fun s => s.data.toList).length = ln := by
      rw [List.length_map, List.length_take, hz]
      split <;> omega
    refine ⟨some a, ln, c, (ss.take ln).map fun s => s.data.toList, hcs, e.symm, strs_at2 hcell, by omega, fun s h => ?_⟩
    obtain ⟨t, ht, rfl⟩ := List.mem_map.1 h
    rw [len_data]
    exact hws t (List.mem_of_mem_take ht)

theorem open_item {cs : List Value} {x : DataW H × List MemPlace} (h : DataW.trod enc Try.prog w base spare held fuel 34 cs = some x) : ∃ it : It, cs = [it.v0, it.v1, it.v2, it.v3, it.v4] ∧ ItOk w it := by
  obtain ⟨xs, n, rfl, hx, hl, hxs, hf⟩ := DataW.trod_struct Try.underlying34 h
  rw [Try.cells34] at hl
  obtain ⟨c0, c1, c2, c3, c4, rfl⟩ : ∃ c0 c1 c2 c3 c4, cs = [c0, c1, c2, c3, c4] := by
    match cs, hl with
    | [a, b, c, d, e], _ => exact ⟨a, b, c, d, e, rfl⟩
  have hxs5 : xs.length = 5 := hxs
  obtain ⟨x0, x1, x2, x3, x4, rfl⟩ : ∃ x0 x1 x2 x3 x4, xs = [x0, x1, x2, x3, x4] := by
    match xs, hxs5 with
    | [a, b, c, d, e], _ => exact ⟨a, b, c, d, e, rfl⟩
  have f0 : DataW.trod enc Try.prog w base spare held n 3 [c0] = some x0 := by have := hf 0 _ rfl; simpa [Try.cells3] using this
  have f1 : DataW.trod enc Try.prog w base spare held n 3 [c1] = some x1 := by have := hf 1 _ rfl; simpa [Try.cells3] using this
  have f2 : DataW.trod enc Try.prog w base spare held n 9 [c2] = some x2 := by have := hf 2 _ rfl; simpa [Try.cells9] using this
  have f3 : DataW.trod enc Try.prog w base spare held n 31 [c3] = some x3 := by have := hf 3 _ rfl; simpa [Try.cells31] using this
  have f4 : DataW.trod enc Try.prog w base spare held n 32 [c4] = some x4 := by have := hf 4 _ rfl; simpa [Try.cells32] using this
  obtain ⟨n0, e0, _, w0⟩ := DataW.trod_int Try.underlying3 f0
  obtain ⟨n1, e1, _, w1⟩ := DataW.trod_int Try.underlying3 f1
  obtain ⟨s2, e2, _, w2⟩ := DataW.trod_string Try.underlying9 f2
  obtain ⟨ia, il, icap, li, e3, hil, hia, hiL, hiB⟩ := open_rowI f3
  obtain ⟨ta, tl, tcap, lt, e4, htl, hta, htL, htB⟩ := open_rowS f4
  simp only [List.cons.injEq, and_true] at e0 e1 e2 e3 e4
  subst e0 e1 e2 e3 e4 hil htl
  refine ⟨⟨⟨n0, n1, s2.data.toList, li, lt⟩, ia, icap, ta, tcap⟩, ?_, ⟨wfi w1, by rw [len_data]; exact w2, hia, hiL, hiB, hta, htL, htB⟩⟩
  simp [It.v0, It.v1, It.v2, It.v3, It.v4, ofL_of]

theorem open_items {cs : List Value} {x : DataW H × List MemPlace} (h : DataW.trod enc Try.prog w base spare held fuel 22 cs = some x) :
    ∃ a len cap, ∃ l : List It, cs = [.slice a len cap] ∧ len = l.length ∧ Items w a l ∧ l.length ≤ maxLen := by
  rcases DataW.trod_slice Try.underlying22 h with ⟨hcs, _⟩ | ⟨a, len, cap, elems, rest, n, _, hcs, _, hb, hl, hm, hlen, hel, hsp, hns⟩
  · exact ⟨none, 0, 0, [], hcs, rfl, fun j h => by simp at h, Nat.zero_le _⟩
  · have each : ∀ i, i < len → ∃ it : It, ItOk w it ∧ ∃ b off, some a = some (⟨b, off, none⟩ : Addr) ∧ w.cell? ⟨b, off + i * 5, none⟩ = some it.v0 ∧ w.cell? ⟨b, off + i * 5 + 1, none⟩ = some it.v1 ∧ w.cell? ⟨b, off + i * 5 + 2, none⟩ = some it.v2 ∧ w.cell? ⟨b, off + i * 5 + 3, none⟩ = some it.v3 ∧ w.cell? ⟨b, off + i * 5 + 4, none⟩ = some it.v4 := by
      intro i hi
      have he := hel i hi
      rw [List.getElem?_eq_getElem (by omega), Option.bind_eq_some_iff, Try.cells34] at he
      obtain ⟨cs', hcs', ht⟩ := he
      obtain ⟨it, rfl, ok⟩ := open_item ht
      obtain ⟨_, _, hc⟩ := World.cells?_some hcs'
      refine ⟨it, ok, ?_⟩
      have k0 : w.cell? ((a.add (i * 5)).add 0) = some it.v0 := hc 0 (by omega)
      have k1 : w.cell? ((a.add (i * 5)).add 1) = some it.v1 := hc 1 (by omega)
      have k2 : w.cell? ((a.add (i * 5)).add 2) = some it.v2 := hc 2 (by omega)
      have k3 : w.cell? ((a.add (i * 5)).add 3) = some it.v3 := hc 3 (by omega)
      have k4 : w.cell? ((a.add (i * 5)).add 4) = some it.v4 := hc 4 (by omega)
      rw [Addr.add_add] at k0 k1 k2 k3 k4
      have hsp : a.spot = none := by
        have he := hel 0 (by omega)
        rw [List.getElem?_eq_getElem (by omega), Option.bind_eq_some_iff, Try.cells34] at he
        obtain ⟨cs0, hcs0, _⟩ := he
        obtain ⟨_, hl0, hc0⟩ := World.cells?_some hcs0
        have q := hc0 0 (by omega)
        rw [Addr.add_add, List.getElem?_eq_getElem (by omega)] at q
        exact spot_of (by simpa using q)
      obtain ⟨b, off, rfl, k0'⟩ := add_plain hsp k0
      obtain ⟨b', off', e, k1'⟩ := add_plain rfl k1
      cases e
      obtain ⟨b', off', e, k2'⟩ := add_plain rfl k2
      cases e
      obtain ⟨b', off', e, k3'⟩ := add_plain rfl k3
      cases e
      obtain ⟨b', off', e, k4'⟩ := add_plain rfl k4
      cases e
      exact ⟨b, off, rfl, k0', k1', k2', k3', k4'⟩
    have ⟨f, hf⟩ : ∃ f : Nat → It, ∀ i, i < len → ItOk w (f i) ∧ ∃ b off, some a = some (⟨b, off, none⟩ : Addr) ∧ w.cell? ⟨b, off + i * 5, none⟩ = some (f i).v0 ∧ w.cell? ⟨b, off + i * 5 + 1, none⟩ = some (f i).v1 ∧ w.cell? ⟨b, off + i * 5 + 2, none⟩ = some (f i).v2 ∧ w.cell? ⟨b, off + i * 5 + 3, none⟩ = some (f i).v3 ∧ w.cell? ⟨b, off + i * 5 + 4, none⟩ = some (f i).v4 := by
      refine ⟨fun i => if h : i < len then Classical.choose (each i h) else ⟨⟨0, 0, [], [], []⟩, none, 0, none, 0⟩, fun i hi => ?_⟩
      simp only [dif_pos hi]
      exact Classical.choose_spec (each i hi)
    refine ⟨some a, len, cap, (List.range len).map f, hcs, by simp, fun j hj => ?_, by simp; omega⟩
    rw [List.length_map, List.length_range] at hj
    simp only [List.getElem_map, List.getElem_range]
    exact hf j hj
end

/-- Are texts, an item, items not too many and too long? -/
def okT (t : List (List UInt8)) : Bool := t.all fun s => decide (s.length ≤ 5000)
def okI (x : M.Item) : Bool := decide (x.text.length ≤ 70000) && decide (x.ints.length ≤ 300) && decide (x.texts.length ≤ 60) && okT x.texts
def few (l : List It) : Bool := decide (l.length ≤ 30) && l.all fun it => okI it.x
theorem all_snoc {α : Type} (p : α → Bool) (l : List α) (k : Nat) (h : k < l.length) (h1 : (l.take k).all p = true) (h2 : p l[k] = true) : (l.take (k + 1)).all p = true := by
  rw [M.take_snoc l k h, List.all_append, h1]
  simp [h2]
theorem all_not {α : Type} (p : α → Bool) (l : List α) (k : Nat) (h : k < l.length) (h2 : p l[k] = false) : l.all p = false := by
  rw [List.all_eq_false]
  exact ⟨l[k], List.getElem_mem h, by simp [h2]⟩

def fewN (l : List It) : Int := if few l then 1 else 0
theorem fewN_0 {l : List It} (h : few l = false) : fewN l = 0 := by simp [fewN, h]
theorem fewN_1 {l : List It} (h : few l = true) : fewN l = 1 := by simp [fewN, h]
set_option maxRecDepth 100000 in
set_option maxHeartbeats 4000000 in
theorem few_any (a : Option Addr) (cap : Nat) (l : List It) (w : World) (hl : l.length ≤ maxLen) (hc : Items w a l) :
    Calls Try.prog 8 #[.slice a l.length cap] w fun x w' => x = .returned (.int .i64 (fewN l)) ∧ w' = w := by
  unfold maxLen at hl
  by_cases h30 : 30 < l.length
  · have d : decide ((30 : Int) < (l.length : Int)) = true := by simp; omega
    have HF : Hid (fewN l = 0) := fewN_0 (by simp [few]; omega)
    go_enter Try.func8, Try.ntmps8
    go_wp2
    go_ret
    rw [HF.out]
    exact ⟨rfl, rfl⟩
  · have d : decide ((30 : Int) < (l.length : Int)) = false := by simp; omega
    have HF : Hid (few l = l.all fun it => okI it.x) := by show _ = _; simp [few]; omega
    go_enter Try.func8, Try.ntmps8
    go_wp2
    go_loop [3] (fun i => ∃ k : Nat, k ≤ l.length ∧ i = .int .i64 k ∧ Hid ((l.take k).all (fun it => okI it.x) = true)) (fun i => l.length - (intOf i).toNat)
    case atStart => exact ⟨0, Nat.zero_le _, rfl, by show _ = _; simp⟩
    case round =>
      obtain ⟨k, hk, rfl, HK⟩ := hrel
      by_cases hlt : k < l.length
      · obtain ⟨ok, b, off, rfl, c0, c1, c2, c3, c4⟩ := hc k hlt
        have HN : Hid (∀ (h : okI l[k].x = false), fewN l = 0) := by
          intro h
          refine fewN_0 ?_
          rw [HF.out]
          exact all_not _ l k hlt h
        have HS : Hid (∀ (h : okI l[k].x = true), (l.take (k + 1)).all (fun it => okI it.x) = true) := fun h => all_snoc _ l k hlt HK.out h
        generalize l[k] = it at *
        obtain ⟨⟨kind, n, text, ints, texts⟩, ia, icap, ta, tcap⟩ := it
        have hT := ok.text
        have hI := ok.intsL
        have hS := ok.textsL
        have hSB := ok.textsB
        have hat := ok.texts
        simp only [It.v0, It.v1, It.v2, It.v3, It.v4] at c0 c1 c2 c3 c4 hT hI hS hSB hat
        unfold maxLen at hT hI hS hSB
        have hsz := ofL_size text
        clear ok
        by_cases h1 : 70000 < text.length
        · have d1 : decide ((70000 : Int) < (text.length : Int)) = true := by simp; omega
          have HR : Hid (fewN l = 0) := HN.out (by simp [okI]; intro h; omega)
          go_wp2
          go_ret
          rw [HR.out]
          exact ⟨rfl, rfl⟩
        · have d1 : decide ((70000 : Int) < (text.length : Int)) = false := by simp; omega
          by_cases h2 : 300 < ints.length
          · have d2 : decide ((300 : Int) < (ints.length : Int)) = true := by simp; omega
            have HR : Hid (fewN l = 0) := HN.out (by simp [okI]; intro h h'; omega)
            go_wp2
            go_ret
            rw [HR.out]
            exact ⟨rfl, rfl⟩
          · have d2 : decide ((300 : Int) < (ints.length : Int)) = false := by simp; omega
            by_cases h3 : 60 < texts.length
            · have d3 : decide ((60 : Int) < (texts.length : Int)) = true := by simp; omega
              have HR : Hid (fewN l = 0) := HN.out (by simp [okI]; intro h h' h''; omega)
              go_wp2
              go_ret
              rw [HR.out]
              exact ⟨rfl, rfl⟩
            · have d3 : decide ((60 : Int) < (texts.length : Int)) = false := by simp; omega
              go_wp2
              go_loop [4] (fun i => ∃ j : Nat, j ≤ texts.length ∧ i = .int .i64 j ∧ Hid ((texts.take j).all (fun s => decide (s.length ≤ 5000)) = true)) (fun i => texts.length - (intOf i).toNat)
              case atStart => exact ⟨0, Nat.zero_le _, rfl, by show _ = _; simp⟩
              case round =>
                obtain ⟨j, hj, rfl, HJ⟩ := hrel
                by_cases hlt2 : j < texts.length
                · obtain ⟨tb, toff, rfl, hcell⟩ := hat j hlt2
                  have hsj := hSB texts[j] (List.getElem_mem hlt2)
                  have HTN : Hid (5000 < (texts[j]).length → okT texts = false) := fun h => all_not _ texts j hlt2 (by simpa using h)
                  have HTS : Hid ((texts[j]).length ≤ 5000 → (texts.take (j + 1)).all (fun s => decide (s.length ≤ 5000)) = true) := fun h => all_snoc _ texts j hlt2 HJ.out (by simpa using h)
                  generalize texts[j] = t at *
                  have hszt := ofL_size t
                  simp only [strV] at hcell
                  by_cases h5 : 5000 < t.length
                  · have d5 : decide ((5000 : Int) < (t.length : Int)) = true := by simp; omega
                    have HR : Hid (fewN l = 0) := HN.out (by simp only [okI]; rw [HTN.out h5]; simp)
                    go_wp2
                    go_ret
                    rw [HR.out]
                    exact ⟨rfl, rfl⟩
                  · have d5 : decide ((5000 : Int) < (t.length : Int)) = false := by simp; omega
                    go_wp2
                    go_round
                    case rel => exact ⟨j + 1, by omega, by go_num, HTS.out (by omega)⟩
                    case measure => simp [intOf]; omega
                · have HO : Hid (okI (⟨kind, n, text, ints, texts⟩ : M.Item) = true) := by
                    have := HJ.out
                    rw [List.take_of_length_le (by omega)] at this
                    show _ = _
                    simp only [okI, okT]
                    rw [this]
                    simp
                    omega
                  go_wp2
                  go_round
                  case rel => exact ⟨k + 1, by omega, by go_num, HS.out HO.out⟩
                  case measure => simp [intOf]; omega
      · have HR : Hid (fewN l = 1) := by
          have := HK.out
          rw [List.take_of_length_le (by omega)] at this
          refine fewN_1 ?_
          rw [HF.out]
          exact this
        go_wp2
        go_ret
        rw [HR.out]
        exact ⟨rfl, rfl⟩

end Go.Proofs.Ytanpplndoemgoaa
