/-
  The document's answers: the map of a text, how many bits, the rows, and rows held against each other.
-/
import Derived.Test.YtigoadfbccpmkaaK
import Derived.Test.YtigoadfbccpmkaaE
namespace Go.Proofs.Ytigoadfbccpmkaa
open Go.RowKit
set_option linter.unusedVariables false

/-- A slice in memory: the address leads to the values of l (where there is one). -/
def At {α : Type} (w : World) (a : Option Addr) (f : α → Value) (l : List α) : Prop :=
  ∀ j (h : j < l.length), ∃ b off, a = some ⟨b, off, none⟩ ∧ w.cell? ⟨b, off + j, none⟩ = some (f l[j])
theorem At.keep {α : Type} {w w' : World} {a : Option Addr} {f : α → Value} {l : List α} (h : At w a f l) (hb : Below w.heap.size w w') : At w' a f l := by
  intro j hj
  obtain ⟨b, off, rfl, hc⟩ := h j hj
  exact ⟨b, off, rfl, (hb.cell (p := ⟨b, off + j, none⟩) (World.block_lt_of_cell? w _ hc)).trans hc⟩
theorem At.keepBut {α : Type} {w w' : World} {a : Option Addr} {f : α → Value} {l : List α} (h : At w a f l) (hb : ∀ k, k < w.heap.size → blk a k → w'.heap[k]? = w.heap[k]?) : At w' a f l := by
  intro j hj
  obtain ⟨b, off, rfl, hc⟩ := h j hj
  have hlt := World.block_lt_of_cell? w _ hc
  exact ⟨b, off, rfl, (World.cell?_of_block (w := w) (a := ⟨b, off + j, none⟩) (hb b hlt ⟨off, none, rfl⟩)).trans hc⟩
theorem owns_at {α : Type} {w : World} {base : Nat} {e : TypeId} {v : Value} {f : α → Value} {l : List α} (h : w.ownsRow base e 1 v l.length (l.map f)) :
    ∃ a cap, v = .slice a l.length cap ∧ At w a f l ∧ ∀ k, blk a k → base ≤ k := by
  rcases h.2 with ⟨rfl, h0⟩ | ⟨g, cap, cur, rfl, hb', hh, hc, hm, hs, ht⟩
  · have e : l = [] := List.length_eq_zero_iff.1 h0
    subst e
    exact ⟨none, 0, rfl, fun j h => by simp at h, fun k ⟨_, _, h⟩ => by cases h⟩
  · refine ⟨some ⟨g, 0, none⟩, cap, rfl, fun j hj => ⟨g, 0, rfl, ?_⟩, fun k ⟨_, _, h⟩ => by simp at h; omega⟩
    rw [Nat.zero_add]
    have := h.cells (g := g) rfl j (f l[j]) (by simp [hj])
    rwa [show ((⟨g, 0, none⟩ : Addr).add j) = ⟨g, j, none⟩ by unfold Addr.add; split <;> simp_all] at this


/-- The bits of a map, one by one. -/
def bl (n : Nat) (f : Nat → Bool) : List Bool := (List.range n).map f
theorem bl_len (n : Nat) (f : Nat → Bool) : (bl n f).length = n := by simp [bl]
theorem bl_get (n : Nat) (f : Nat → Bool) (k : Nat) (h : k < (bl n f).length) : (bl n f)[k] = f k := by simp [bl]

set_option maxHeartbeats 1000000 in
theorem refCount_any (n : Nat) (f : Nat → Bool) (a : Option Addr) (cap : Nat) (w : World) (hn : n ≤ 4096) (ha : At w a Value.bool (bl n f)) :
    Calls Try.prog 22 #[.slice a n cap] w fun e w' => e = .returned (.int .i64 (M.cnt f 0 n)) ∧ w' = w := by
  go_enter Try.func22, Try.ntmps22
  go_wp2
  go_loopw [3, 4] (fun c i wr => ∃ k : Nat, k ≤ n ∧ i = .int .i64 k ∧ c = .int .i64 (M.cnt f 0 k) ∧ wr = w) (fun _ i _ => n - (intOf i).toNat)
  case atStart => exact ⟨0, by omega, rfl, rfl, rfl⟩
  case round =>
    obtain ⟨k, hk, rfl, rfl, rfl⟩ := hrel
    by_cases hlt : k < n
    · obtain ⟨b, off, rfl, hc⟩ := ha k (by rw [bl_len]; exact hlt)
      rw [bl_get] at hc
      have HC : Hid (M.cnt f 0 (k + 1) = M.cnt f 0 k + (if f k then 1 else 0)) := by show _ = _; rw [M.cnt, Nat.zero_add]
      have hle := M.cnt_le f 0 k
      clear ha
      generalize M.cnt f 0 k = c at *
      generalize f k = v at *
      cases v
      · go_wp2
        go_roundw
        case rel => exact ⟨k + 1, by omega, by go_num, by rw [HC.out]; rfl, by first | rfl | trivial⟩
        case measure => simp [intOf]; omega
      · go_wp2
        go_roundw
        case rel => exact ⟨k + 1, by omega, by go_num, by rw [HC.out]; go_num, by first | rfl | trivial⟩
        case measure => simp [intOf]; omega
    · have hkn : k = n := by omega
      subst hkn
      go_wp2
      go_ret
      exact ⟨rfl, rfl⟩

set_option maxHeartbeats 1000000 in
theorem same_any (a1 : Option Addr) (cap1 : Nat) (a2 : Option Addr) (cap2 : Nat) (l : List (Nat × Nat)) (w : World) (hl : l.length ≤ 4096) (hc1 : AtR w a1 l) (hc2 : AtR w a2 l) :
    Calls Try.prog 25 #[.slice a1 l.length cap1, .slice a2 l.length cap2] w fun e w' => e = .returned (.bool true) ∧ Below w.heap.size w w' := by
  go_enter Try.func25, Try.ntmps25
  go_wp2
  go_loopw [5] (fun i wr => ∃ k : Nat, k ≤ l.length ∧ i = .int .i64 k ∧ Below w.heap.size w wr) (fun i _ => l.length - (intOf i).toNat)
  case atStart => exact ⟨0, Nat.zero_le _, rfl, Below.refl _ _⟩
  case round =>
    obtain ⟨k, hk, rfl, hbel⟩ := hrel
    by_cases hlt : k < l.length
    · obtain ⟨b, off, rfl, hd1, hd1'⟩ := (hc1.keep hbel) k hlt
      obtain ⟨b2, off2, rfl, hd2, hd2'⟩ := (hc2.keep hbel) k hlt
      generalize l[k].1 = x at *
      generalize l[k].2 = y at *
      clear hc1 hc2
      go_wp2
      go_quiet (fail)
      go_wp2
      go_roundw
      case rel => exact ⟨k + 1, by omega, by go_num, below_drewN hbel _⟩
      case measure => simp [intOf]; omega
    · go_wp2
      go_ret
      exact ⟨rfl, hbel⟩

/-! the document's map of a text -/
def RowB (w : World) (g : Nat) (l : List Bool) : Prop := w.heap[g]? = some (.cells (l.map Value.bool).toArray 4 (0, 0))
theorem RowB.cell {w : World} {g : Nat} {l : List Bool} (h : RowB w g l) (j : Nat) (hj : j < l.length) : w.cell? ⟨g, j, none⟩ = some (.bool l[j]) := by
  rw [cell_of_row w g j _ _ _ h]; simp [hj]
theorem RowB.free {w : World} {g : Nat} {l : List Bool} (h : RowB w g l) (j : Nat) : w.frozen? ⟨g, j, none⟩ = false := frozen_of_row w g j _ _ h
theorem RowB.set {w : World} {g : Nat} {l : List Bool} (h : RowB w g l) (j : Nat) (b : Bool) : RowB (w.setCell ⟨g, j, none⟩ (.bool b)) g (l.set j b) := by
  unfold RowB
  rw [heap_setCell_same w g j _ _ _ h]
  congr 2
  apply Array.ext'
  simp [List.map_set]
theorem RowB.at {w : World} {g : Nat} {l : List Bool} (h : RowB w g l) : At w (some ⟨g, 0, none⟩) Value.bool l := by
  intro j hj
  exact ⟨g, 0, rfl, by rw [Nat.zero_add]; exact h.cell j hj⟩
theorem made_bools (n : Nat) : (madeCells (Value.bool false).cells (n * 1)).toList = ((List.replicate n false).map Value.bool).toArray.toList := by
  rw [Nat.mul_one]
  show (madeCells #[Value.bool false] n).toList = _
  rw [toList_madeCells_one]
  simp
theorem rowB_of_owns {w : World} {base g n : Nat} {l : List Bool} (hl : l.length = n) (h : w.ownsRow base 4 1 (.slice (some ⟨g, 0, none⟩) n n) n (l.map Value.bool).toArray.toList) : RowB w g l := by
  rcases h.2 with ⟨h', _⟩ | ⟨g', cap, cur, h', _, hh, _, _, hs, ht⟩
  · cases h'
  · simp only [Value.slice.injEq, Option.some.injEq, Addr.mk.injEq, and_true, true_and] at h'
    obtain ⟨rfl, rfl⟩ := h'
    rw [Nat.mul_one] at hs ht
    rw [List.take_of_length_le (by simp [hs])] at ht
    unfold RowB
    rw [hh, Array.toList_inj.1 ht]
theorem Try.info4 : (Try.prog.info? 4).map (fun i => (i.zero, i.size, i.bytes)) = some (some (.bool false), 1, 1) := by kernel_rfl
def upto (f : Nat → Bool) (k : Nat) : Nat → Bool := fun i => decide (i < k) && f i
theorem upto_zero (f : Nat → Bool) (n : Nat) : bl n (upto f 0) = List.replicate n false := by
  apply List.ext_getElem
  · simp [bl]
  · intro i h1 h2; simp [bl, upto]
theorem upto_set (f : Nat → Bool) (n k : Nat) (h : f k = true) : (bl n (upto f k)).set k true = bl n (upto f (k + 1)) := by
  apply List.ext_getElem
  · simp [bl]
  · intro i h1 h2
    rw [List.getElem_set]
    simp only [bl, List.getElem_map, List.getElem_range, upto]
    by_cases e : k = i
    · subst e; simp [h]
    · have : (i < k) = (i < k + 1) := by apply propext; constructor <;> intro h <;> omega
      simp only [e, if_false, this]
theorem upto_skip (f : Nat → Bool) (n k : Nat) (h : f k = false) : bl n (upto f k) = bl n (upto f (k + 1)) := by
  apply List.map_congr_left
  intro i hi
  simp only [upto]
  by_cases e : i = k
  · subst e; simp [h]
  · have : (i < k) = (i < k + 1) := by apply propext; constructor <;> intro h <;> omega
    simp only [this]
theorem upto_all (f : Nat → Bool) (n k : Nat) (h : ∀ i, k ≤ i → f i = false) : bl n (upto f k) = bl n f := by
  apply List.map_congr_left
  intro i hi
  simp only [upto]
  by_cases e : i < k
  · simp [e]
  · simp [e, h i (by omega)]
theorem bit_of (s : ByteArray) (i : Nat) (h : i / 8 < s.size) : ((s[i / 8].toNat : Int) / 2 ^ (i % 8)) % 2 = if fs s.data.toList i then 1 else 0 := by
  have e : s.data.toList.getD (i / 8) 0 = s[i / 8] := by
    rw [List.getD_eq_getElem?_getD, List.getElem?_eq_getElem (by rw [len_data]; exact h)]
    rfl
  unfold fs
  rw [e, Nat.testBit_eq_decide_div_mod_eq]
  have e2 : ((s[i / 8].toNat : Int) / 2 ^ (i % 8)) % 2 = ((s[i / 8].toNat / 2 ^ (i % 8) % 2 : Nat) : Int) := by simp
  rw [e2]
  by_cases hq : s[i / 8].toNat / 2 ^ (i % 8) % 2 = 1
  · simp [hq]
  · have : s[i / 8].toNat / 2 ^ (i % 8) % 2 = 0 := by omega
    simp [this]

end Go.Proofs.Ytigoadfbccpmkaa
