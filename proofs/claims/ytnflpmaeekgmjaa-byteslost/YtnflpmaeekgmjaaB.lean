/-
  Calls that write into a row of bytes of their own: laying one text over another and xoring a text into a row do what the plain functions of the text M say, for every input, and write nothing but that row.
-/
import Derived.Test.YtnflpmaeekgmjaaA
import Derived.BigRegion
import Derived.RegionTactic
namespace Go.Proofs.Ytnflpmaeekgmjaa
open Go.RowKit
set_option linter.unusedVariables false

def cellsOf (l : List UInt8) : Array Value := (l.map fun b => Value.int .u8 (b.toNat : Int)).toArray
theorem cellsOf_size (l : List UInt8) : (cellsOf l).size = l.length := by simp [cellsOf]
theorem cellsOf_get (l : List UInt8) (j : Nat) (h : j < l.length) : (cellsOf l)[j]? = some (Value.int .u8 (l[j].toNat : Int)) := by simp [cellsOf, h]
theorem cellsOf_set (l : List UInt8) (j : Nat) (b : UInt8) : (cellsOf l).setIfInBounds j (Value.int .u8 (b.toNat : Int)) = cellsOf (l.set j b) := by
  apply Array.ext'
  simp [cellsOf, List.map_set]

def Row (w : World) (g : Nat) (l : List UInt8) : Prop := w.heap[g]? = some (.cells (cellsOf l) 5 (0, 0))
theorem Row.cell {w : World} {g : Nat} {l : List UInt8} (h : Row w g l) (j : Nat) (hj : j < l.length) : w.cell? ⟨g, j, none⟩ = some (.int .u8 (l[j].toNat : Int)) := by
  rw [cell_of_row w g j _ _ _ h, cellsOf_get l j hj]
theorem Row.free {w : World} {g : Nat} {l : List UInt8} (h : Row w g l) (j : Nat) : w.frozen? ⟨g, j, none⟩ = false := frozen_of_row w g j _ _ h
theorem Row.set {w : World} {g : Nat} {l : List UInt8} (h : Row w g l) (j : Nat) (b : UInt8) : Row (w.setCell ⟨g, j, none⟩ (.int .u8 (b.toNat : Int))) g (l.set j b) := by
  unfold Row
  rw [← cellsOf_set]
  exact heap_setCell_same w g j _ _ _ h
theorem grown_set (w : World) (g j : Nat) (u : Value) : w.grownBy (w.setCell ⟨g, j, none⟩ u) (some g) :=
  ⟨rfl, rfl, rfl, by simp, fun k _ hk => heap_setCell_other w ⟨g, j, none⟩ k u (fun e => hk (by simp [e]))⟩
theorem grown_trans {a b c : World} {r : Option Nat} (h : a.grownBy b r) (k : b.grownBy c r) : a.grownBy c r :=
  ⟨k.os.trans h.os, k.tape.trans h.tape, k.output.trans h.output, Nat.le_trans h.size k.size, fun i hi hr => (k.block i (Nat.lt_of_lt_of_le hi h.size) hr).trans (h.block i hi hr)⟩
theorem grown_drewN {a b : World} {r : Option Nat} (h : a.grownBy b r) (n : Nat) : a.grownBy (b.drewN n) r := ⟨h.os, h.tape, h.output, h.size, h.block⟩
theorem Row.drewN {w : World} {g : Nat} {l : List UInt8} (h : Row w g l) (n : Nat) : Row (w.drewN n) g l := h

set_option maxHeartbeats 400000 in
theorem lay_any (g off len cap : Nat) (l : List UInt8) (s : ByteArray) (w : World) (hr : Row w g l) (h1 : s.size ≤ len) (h2 : off + s.size ≤ l.length) (h3 : len ≤ 281474976710656) :
    Calls Try.prog 29 #[.slice (some ⟨g, off, none⟩) len cap, .string s] w fun e w' => e = .returned (.tuple #[]) ∧ Row w' g (M.over l off s.data.toList) ∧ w.grownBy w' (some g) := by
  go_enter Try.func29, Try.ntmps29
  go_wp2
  go_loopw [7] (fun i wr => ∃ k : Nat, k ≤ s.size ∧ i = .int .i64 k ∧ Row wr g (M.over l off (s.data.toList.take k)) ∧ w.grownBy wr (some g)) (fun i _ => s.size - (intOf i).toNat)
  case atStart => exact ⟨0, Nat.zero_le _, rfl, by rw [List.take_zero, M.over_nil]; exact hr, World.grownBy.refl _ _⟩
  case round =>
    obtain ⟨k, hk, rfl, hrow, hgr⟩ := hrel
    by_cases hlt : k < s.size
    · have hlen : (M.over l off (s.data.toList.take k)).length = l.length := M.over_length _ _ _ (by rw [List.length_take, len_data]; omega)
      have hc := hrow.cell (off + k) (by omega)
      have hf := hrow.free (off + k)
      have hc' : ∃ v, wr.cell? ⟨g, off + k, none⟩ = some v := ⟨_, hc⟩
      clear hc
      obtain ⟨v, hv⟩ := hc'
      have R : Row (wr.setCell ⟨g, off + k, none⟩ (.int .u8 (s[k].toNat : Int))) g (M.over l off (s.data.toList.take (k + 1))) := by
        rw [← M.over_step l off s.data.toList k (by rw [len_data]; exact hlt) (by rw [len_data]; exact h2)]
        exact hrow.set (off + k) _
      have G := grown_trans hgr (grown_set wr g (off + k) (.int .u8 (s[k].toNat : Int)))
      go_wp2
      go_roundw
      case rel => exact ⟨k + 1, by omega, by go_num, R, G⟩
      case measure => simp [intOf]; omega
    · rw [List.take_of_length_le (by rw [len_data]; omega)] at hrow
      go_wp2
      go_end0
      exact ⟨rfl, hrow, hgr⟩

theorem byte_xor (x y : UInt8) : bits BinOp.xor IntKind.u8 (x.toNat : Int) (y.toNat : Int) = ((x ^^^ y).toNat : Int) := by
  rw [u8_xor_nat _ _ x.toNat_lt y.toNat_lt, UInt8.toNat_xor]

set_option maxHeartbeats 400000 in
theorem mix_any (g len cap : Nat) (l : List UInt8) (s : ByteArray) (w : World) (hr : Row w g l) (h1 : s.size ≤ len) (h2 : s.size ≤ l.length) (h3 : len ≤ 281474976710656) :
    Calls Try.prog 26 #[.slice (some ⟨g, 0, none⟩) len cap, .string s] w fun e w' => e = .returned (.tuple #[]) ∧ Row w' g (M.mix l s.data.toList) ∧ w.grownBy w' (some g) := by
  go_enter Try.func26, Try.ntmps26
  go_wp2
  go_loopw [7] (fun i wr => ∃ k : Nat, k ≤ s.size ∧ i = .int .i64 k ∧ Row wr g (M.mix l (s.data.toList.take k)) ∧ w.grownBy wr (some g)) (fun i _ => s.size - (intOf i).toNat)
  case atStart => exact ⟨0, Nat.zero_le _, rfl, by rw [List.take_zero, M.mix_nil]; exact hr, World.grownBy.refl _ _⟩
  case round =>
    obtain ⟨k, hk, rfl, hrow, hgr⟩ := hrel
    by_cases hlt : k < s.size
    · have hlen : k < (M.mix l (s.data.toList.take k)).length := by rw [M.mix_length]; omega
      have hc := hrow.cell k hlen
      have hf := hrow.free k
      generalize hx : (M.mix l (s.data.toList.take k))[k] = x at hc
      have R : Row (wr.setCell ⟨g, k, none⟩ (.int .u8 (bits BinOp.xor IntKind.u8 (x.toNat : Int) (s[k].toNat : Int)))) g (M.mix l (s.data.toList.take (k + 1))) := by
        rw [byte_xor, ← M.mix_step l s.data.toList k (by rw [len_data]; exact hlt) (by rw [len_data]; exact h2), hx]
        exact hrow.set k _
      have G := grown_trans hgr (grown_set wr g k (.int .u8 (bits BinOp.xor IntKind.u8 (x.toNat : Int) (s[k].toNat : Int))))
      clear hx hlen
      go_wp2
      go_region
      go_wp2
      go_roundw
      case rel => exact ⟨k + 1, by omega, by go_num, R.drewN 1, grown_drewN G 1⟩
      case measure => simp [intOf]; omega
    · rw [List.take_of_length_le (by rw [len_data]; omega)] at hrow
      go_wp2
      go_end0
      exact ⟨rfl, hrow, hgr⟩

end Go.Proofs.Ytnflpmaeekgmjaa
