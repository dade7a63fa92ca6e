/-
  The xor of two texts and of many, and the document's answer for both: for every input the same text; nothing that was there is written.
-/
import Derived.Test.YtnflpmaeekgmjaaD
namespace Go.Proofs.Ytnflpmaeekgmjaa
open Go.RowKit
set_option linter.unusedVariables false

theorem texts_two (w : World) (a b : ByteArray) : Texts (w.alloc (.cells #[.string a, .string b] 9)) (some ⟨w.heap.size, 0, none⟩) [a, b] := by
  intro j hj
  refine ⟨_, _, rfl, ?_⟩
  rw [cell_of_row _ _ _ _ _ _ (heap_alloc_new w _)]
  match j, hj with
  | 0, _ => rfl
  | 1, _ => rfl

set_option maxHeartbeats 400000 in
theorem xor_any (a b : ByteArray) (w : World) (ha : a.size ≤ 140737488351232) (hb : b.size ≤ 140737488351232) :
    Calls Try.prog 10 #[.string a, .string b] w fun e w' => e = .returned (.string (ofL (sumL [a, b]))) ∧ Below w.heap.size w w' := by
  go_enter Try.func10, Try.ntmps10
  go_wp2_with fail
  refine (sum_any _ 2 2 [a, b] _ rfl (by simp) (texts_two w a b) (by simp; exact ⟨ha, hb⟩)).mono ?_
  rintro e w1 ⟨rfl, hbel⟩
  go_wp2
  go_ret
  exact ⟨rfl, ((Below.refl _ _).alloc (Nat.le_refl _) _).trans (hbel.mono (by simp))⟩

/-- The document's xor of two: byte by byte, as long as the longer one. -/
def xorL (a b : List UInt8) : List UInt8 := (List.range (max a.length b.length)).map fun i => a.getD i 0 ^^^ b.getD i 0
theorem xorL_length (a b : List UInt8) : (xorL a b).length = max a.length b.length := by simp [xorL]
theorem xorL_getD (a b : List UInt8) (i : Nat) : (xorL a b).getD i 0 = a.getD i 0 ^^^ b.getD i 0 := by
  by_cases h : i < max a.length b.length
  · simp [xorL, h]
  · have h1 : a.length ≤ i := by omega
    have h2 : b.length ≤ i := by omega
    simp [xorL, h, h1, h2]

theorem take_range_map (n k : Nat) (h : k < n) (f : Nat → UInt8) : ((List.range n).map f).take (k + 1) = ((List.range n).map f).take k ++ [f k] := by
  rw [M.take_snoc _ k (by simpa using h)]
  simp

theorem xorL_snoc (a b : List UInt8) (k : Nat) (h : k < max a.length b.length) : (xorL a b).take (k + 1) = (xorL a b).take k ++ [a.getD k 0 ^^^ b.getD k 0] :=
  take_range_map _ k h _

def vals (l : List UInt8) : List Value := l.map fun b => Value.int .u8 (b.toNat : Int)

theorem getD_byte (s : ByteArray) (k : Nat) (h : k < s.size) : s.data.toList.getD k 0 = s[k] := by
  rw [List.getD_eq_getElem?_getD, List.getElem?_eq_getElem (by rw [len_data]; exact h)]
  rfl
theorem getD_past (s : ByteArray) (k : Nat) (h : ¬ k < s.size) : s.data.toList.getD k 0 = 0 := by
  rw [List.getD_eq_getElem?_getD, List.getElem?_eq_none (by rw [len_data]; omega)]
  rfl

theorem byte_xor0 (y : UInt8) : bits BinOp.xor IntKind.u8 0 (y.toNat : Int) = (y.toNat : Int) := by
  have := byte_xor 0 y
  simpa using this
theorem vals_snoc (a b : List UInt8) (k : Nat) (h : k < max a.length b.length) (X : Int) (hX : X = ((a.getD k 0 ^^^ b.getD k 0).toNat : Int)) : vals ((xorL a b).take (k + 1)) = vals ((xorL a b).take k) ++ [Value.int .u8 X] := by
  rw [xorL_snoc a b k h, hX]
  simp [vals]

theorem vals_len (l : List UInt8) : (vals l).length = l.length := by simp [vals]

/-- What a row of one's own reads as when it is made a text. -/
theorem owns_convert {w : World} {base n : Nat} {v : Value} {l : List UInt8} (h : w.ownsRow base 5 1 v n (vals l)) (hn : l.length = n) : (Go.convert 46 9 v).run Try.prog w = .ok (.string (ofL l)) w := by
  rcases h.2 with ⟨rfl, h0⟩ | ⟨g, cap, cur, rfl, hb, hh, hc, hm, hs, ht⟩
  · have hl : l = [] := List.length_eq_zero_iff.1 (by omega)
    subst hl
    exact run_convert_bytes_nil (P := Try.prog) w 46 5 Try.underlying46 Try.underlying5 0 0 9 Try.underlying9
  · subst hn
    refine run_convert_bytes_back w 46 9 5 ⟨g, 0, none⟩ cap l Try.underlying46 Try.underlying5 Try.underlying9 fun j hj => ?_
    have := h.cells (g := g) rfl j (.int .u8 (l[j].toNat : Int)) (by simp [vals, hj])
    exact this

set_option maxHeartbeats 1000000 in
theorem refXor_any (a b : ByteArray) (w : World) (ha : a.size ≤ 140737488351232) (hb : b.size ≤ 140737488351232) :
    Calls Try.prog 11 #[.string a, .string b] w fun e w' => e = .returned (.string (ofL (xorL a.data.toList b.data.toList))) ∧ Below w.heap.size w w' := by
  obtain ⟨i0, hi, hz0, hz1, hz2⟩ := info_parts Try.info5
  go_enter Try.func11, Try.ntmps11
  go_wp2
  go_loopw [5, 6] (fun v i wr => ∃ k : Nat, k ≤ max a.size b.size ∧ i = .int .i64 k ∧ wr.ownsRow w.heap.size 5 1 v k (vals ((xorL a.data.toList b.data.toList).take k)) ∧ Below w.heap.size w wr) (fun _ i _ => max a.size b.size - (intOf i).toNat)
  case atStart => exact ⟨0, Nat.zero_le _, rfl, World.ownsRow_nil _ _ _ _, Below.refl _ _⟩
  case round =>
    obtain ⟨k, hk, rfl, hown, hbel⟩ := hrel
    have hm1 : max a.size b.size ≤ 140737488351232 := by omega
    have hle := hbel.size
    by_cases h1 : k < a.size
    · have hd : decide ((k : Int) < (a.size : Int)) = true := by simp; omega
      by_cases h2 : k < b.size
      · have hv := vals_snoc a.data.toList b.data.toList k (by rw [len_data, len_data]; omega) (bits BinOp.xor IntKind.u8 (bits BinOp.xor IntKind.u8 0 (a[k].toNat : Int)) (b[k].toNat : Int)) (by rw [byte_xor0, byte_xor, getD_byte a k h1, getD_byte b k h2])
        have HV : Hid (vals ((xorL a.data.toList b.data.toList).take (k + 1)) = vals ((xorL a.data.toList b.data.toList).take k) ++ [Value.int .u8 (bits BinOp.xor IntKind.u8 (bits BinOp.xor IntKind.u8 0 (a[k].toNat : Int)) (b[k].toNat : Int))]) := hv
        clear hv
        go_wp2_with (at_builtin; refine wpList_append_own _ rfl _ _ 46 rfl w.heap.size 5 i0 (.int .u8 0) 1 1 Try.underlying46 hi hz0 hz1 hz2 rfl (by decide) _ _ _ rfl (hown.alloc _) ⟨wr.heap.size, 0, none⟩ 1 1 [.int .u8 (bits BinOp.xor IntKind.u8 (bits BinOp.xor IntKind.u8 0 (a[k].toNat : Int)) (b[k].toNat : Int))] rfl rfl (cell_one_new _ _ _) (by simp; rfl) (by unfold maxLen; omega) (by omega) (by simp; omega) ?_; intro v' w1 hown' hgrow hnil)
        rw [← HV.out] at hown'
        have hb2 := (hbel.alloc hle _).grown hgrow (by simp; omega) (fun j hj => (hown.lt j hj).1)
        clear hown hgrow
        go_wp2
        go_roundw
        case rel => exact ⟨k + 1, by omega, by go_num, hown', hb2⟩
        case measure => simp [intOf]; omega
      · have hd2 : decide ((k : Int) < (b.size : Int)) = false := by simp; omega
        have hv := vals_snoc a.data.toList b.data.toList k (by rw [len_data, len_data]; omega) (bits BinOp.xor IntKind.u8 0 (a[k].toNat : Int)) (by rw [byte_xor0, getD_byte a k h1, getD_past b k h2, UInt8.xor_zero])
        have HV : Hid (vals ((xorL a.data.toList b.data.toList).take (k + 1)) = vals ((xorL a.data.toList b.data.toList).take k) ++ [Value.int .u8 (bits BinOp.xor IntKind.u8 0 (a[k].toNat : Int))]) := hv
        clear hv
        go_wp2_with (at_builtin; refine wpList_append_own _ rfl _ _ 46 rfl w.heap.size 5 i0 (.int .u8 0) 1 1 Try.underlying46 hi hz0 hz1 hz2 rfl (by decide) _ _ _ rfl (hown.alloc _) ⟨wr.heap.size, 0, none⟩ 1 1 [.int .u8 (bits BinOp.xor IntKind.u8 0 (a[k].toNat : Int))] rfl rfl (cell_one_new _ _ _) (by simp; rfl) (by unfold maxLen; omega) (by omega) (by simp; omega) ?_; intro v' w1 hown' hgrow hnil)
        rw [← HV.out] at hown'
        have hb2 := (hbel.alloc hle _).grown hgrow (by simp; omega) (fun j hj => (hown.lt j hj).1)
        clear hown hgrow
        go_wp2
        go_roundw
        case rel => exact ⟨k + 1, by omega, by go_num, hown', hb2⟩
        case measure => simp [intOf]; omega
    · have hd : decide ((k : Int) < (a.size : Int)) = false := by simp; omega
      by_cases h2 : k < b.size
      · have hv := vals_snoc a.data.toList b.data.toList k (by rw [len_data, len_data]; omega) (bits BinOp.xor IntKind.u8 0 (b[k].toNat : Int)) (by rw [byte_xor0, getD_past a k h1, getD_byte b k h2, UInt8.zero_xor])
        have HV : Hid (vals ((xorL a.data.toList b.data.toList).take (k + 1)) = vals ((xorL a.data.toList b.data.toList).take k) ++ [Value.int .u8 (bits BinOp.xor IntKind.u8 0 (b[k].toNat : Int))]) := hv
        clear hv
        go_wp2_with (at_builtin; refine wpList_append_own _ rfl _ _ 46 rfl w.heap.size 5 i0 (.int .u8 0) 1 1 Try.underlying46 hi hz0 hz1 hz2 rfl (by decide) _ _ _ rfl (hown.alloc _) ⟨wr.heap.size, 0, none⟩ 1 1 [.int .u8 (bits BinOp.xor IntKind.u8 0 (b[k].toNat : Int))] rfl rfl (cell_one_new _ _ _) (by simp; rfl) (by unfold maxLen; omega) (by omega) (by simp; omega) ?_; intro v' w1 hown' hgrow hnil)
        rw [← HV.out] at hown'
        have hb2 := (hbel.alloc hle _).grown hgrow (by simp; omega) (fun j hj => (hown.lt j hj).1)
        clear hown hgrow
        go_wp2
        go_roundw
        case rel => exact ⟨k + 1, by omega, by go_num, hown', hb2⟩
        case measure => simp [intOf]; omega
      · have hd2 : decide ((k : Int) < (b.size : Int)) = false := by simp; omega
        have hkm : k = max a.size b.size := by omega
        rw [List.take_of_length_le (by rw [xorL_length, len_data, len_data]; omega)] at hown
        have hcv := owns_convert hown (by rw [xorL_length, len_data, len_data]; omega)
        clear hkm
        go_wp2
        go_ret
        exact ⟨rfl, hbel⟩

end Go.Proofs.Ytnflpmaeekgmjaa
