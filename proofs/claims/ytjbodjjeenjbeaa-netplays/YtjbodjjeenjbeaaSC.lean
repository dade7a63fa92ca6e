/-
  The calls that seal texts and open them return what the plain functions say, for every text that is not too long, and write nothing that was there.
-/
import Derived.Test.YtjbodjjeenjbeaaSA
import Derived.BigRegion
import Derived.RegionTactic
import Derived.ProofKit
import Derived.Below
import Derived.Laws.MakeOwn
import Derived.Lib.Strings
import Derived.Lib.Walk
import Derived.Lib.BufferWrite
import Derived.Lib.UnsafeStr
import Derived.Lib.Hide
namespace Go.Proofs.Ytjbodjjeenjbeaa
open Go.RowKit
set_option linter.unusedVariables false

theorem byte_bits (x : BitVec 32) (k : Nat) : ((K2.byte x k).toNat : Int) = (x.toNat : Int) / ((2 ^ k : Nat) : Int) % 256 := by
  unfold K2.byte
  rw [UInt8.toNat_ofBitVec, BitVec.toNat_setWidth, BitVec.toNat_ushiftRight, Nat.shiftRight_eq_div_pow]
  omega
theorem four_convert (w : World) (x : BitVec 32) :
    (Go.convert 84 9 (.slice (some ⟨w.heap.size, 0, none⟩) 4 4)).run Try.prog (w.alloc (.cells #[.int .u8 ((x.toNat : Int) % 256), .int .u8 ((x.toNat : Int) / 256 % 256), .int .u8 ((x.toNat : Int) / 65536 % 256), .int .u8 ((x.toNat : Int) / 16777216)] 5)) = .ok (.string (ofL (K2.four x))) (w.alloc (.cells #[.int .u8 ((x.toNat : Int) % 256), .int .u8 ((x.toNat : Int) / 256 % 256), .int .u8 ((x.toNat : Int) / 65536 % 256), .int .u8 ((x.toNat : Int) / 16777216)] 5)) := by
  have hx : x.toNat < 4294967296 := x.isLt
  have b0 := byte_bits x 0
  have b1 := byte_bits x 8
  have b2 := byte_bits x 16
  have b3 := byte_bits x 24
  simp only [Nat.pow_zero, Nat.reducePow, Int.cast_ofNat_Int] at b0 b1 b2 b3
  refine run_convert_bytes_back _ 84 9 5 ⟨w.heap.size, 0, none⟩ 4 (K2.four x) Try.underlying84 Try.underlying5 Try.underlying9 fun j hj => ?_
  rw [show ((⟨w.heap.size, 0, none⟩ : Addr).add j) = ⟨w.heap.size, j, none⟩ by unfold Addr.add; split <;> simp_all]
  rw [cell_of_row _ _ _ _ _ _ (heap_alloc_new w _)]
  rw [K2.four_len] at hj
  match j, hj with
  | 0, _ => show some (Value.int .u8 ((x.toNat : Int) % 256)) = some (.int .u8 ((K2.byte x 0).toNat : Int)); rw [b0]; simp
  | 1, _ => show some (Value.int .u8 ((x.toNat : Int) / 256 % 256)) = some (.int .u8 ((K2.byte x 8).toNat : Int)); rw [b1]
  | 2, _ => show some (Value.int .u8 ((x.toNat : Int) / 65536 % 256)) = some (.int .u8 ((K2.byte x 16).toNat : Int)); rw [b2]
  | 3, _ => show some (Value.int .u8 ((x.toNat : Int) / 16777216)) = some (.int .u8 ((K2.byte x 24).toNat : Int)); rw [b3, Int.emod_eq_of_lt (by omega) (by omega)]

set_option maxHeartbeats 400000 in
theorem refFour_any (x : BitVec 32) (w : World) :
    Calls Try.prog 59 #[.int .u32 x.toNat] w fun e w' => e = .returned (.string (ofL (K2.four x))) ∧ Below w.heap.size w w' := by
  have hx : x.toNat < 4294967296 := x.isLt
  have hcv := four_convert w x
  go_enter Try.func59, Try.ntmps59
  go_wp2
  go_ret
  exact ⟨rfl, (Below.refl _ _).alloc (Nat.le_refl _) _⟩

theorem sealed_app (s : ByteArray) : s ++ ofL (K2.four (K2.sum s.data.toList)) = ofL (K2.sealed s.data.toList) := by
  apply ByteArray.ext
  simp [ofL, K2.sealed]

set_option maxHeartbeats 400000 in
theorem seal_any (s : ByteArray) (w : World) (hs : s.size ≤ 140737488351232) :
    Calls Try.prog 49 #[.string s] w fun e w' => e = .returned (.string (ofL (K2.sealed s.data.toList))) ∧ Below w.heap.size w w' := by
  go_enter Try.func49, Try.ntmps49
  go_wp2_with fail
  refine (sum_any s w (by unfold maxLen; omega)).mono ?_
  rintro e w1 ⟨rfl, rfl⟩
  have HS : Hid (_ = _) := sealed_app s
  generalize K2.sum s.data.toList = x at HS ⊢
  have hx : x.toNat < 4294967296 := x.isLt
  have hcv := four_convert w1 x
  have hF4 : (ofL (K2.four x)).size = 4 := by rw [ofL_size]; rfl
  generalize ofL (K2.four x) = F at HS hcv hF4 ⊢
  go_wp2
  go_ret
  rw [HS.out]
  exact ⟨rfl, (Below.refl _ _).alloc (Nat.le_refl _) _⟩

set_option maxHeartbeats 400000 in
theorem refSeal_any (s : ByteArray) (w : World) (hs : s.size ≤ 140737488351232) :
    Calls Try.prog 42 #[.string s] w fun e w' => e = .returned (.string (ofL (K2.sealed s.data.toList))) ∧ Below w.heap.size w w' := by
  go_enter Try.func42, Try.ntmps42
  go_wp2_with fail
  refine (refSum_any s w (by unfold maxLen; omega)).mono ?_
  rintro e w1 ⟨rfl, rfl⟩
  have HS : Hid (_ = _) := sealed_app s
  generalize K2.sum s.data.toList = x at HS ⊢
  have hx : x.toNat < 4294967296 := x.isLt
  go_wp2_with fail
  refine (refFour_any x w1).mono ?_
  rintro e w2 ⟨rfl, hb⟩
  have hF4 : (ofL (K2.four x)).size = 4 := by rw [ofL_size]; rfl
  generalize ofL (K2.four x) = F at HS hF4 ⊢
  go_wp2
  go_ret
  rw [HS.out]
  exact ⟨rfl, hb⟩

end Go.Proofs.Ytjbodjjeenjbeaa
