/-
  How many bits are set.
-/
import Derived.Test.YtigoadfbccpmkaaB
import Derived.Test.YtigoadfbccpmkaaN
import Derived.Laws.Bits128
namespace Go.Proofs.Ytigoadfbccpmkaa
open Go.RowKit
set_option linter.unusedVariables false
theorem wrap_id (x : Nat) (h : x < 18446744073709551616) : IntKind.u64.wrap (x : Int) = (x : Int) := by
  rw [IntKind.wrap_u64]; omega
theorem and_lt (x m : Nat) (h : x < 18446744073709551616) : x &&& m < 18446744073709551616 := Nat.lt_of_le_of_lt Nat.and_le_left h
set_option maxRecDepth 100000 in
set_option maxHeartbeats 1000000 in
theorem ones_any (f : Nat → Bool) (k : Nat) (w : World) : Calls Try.prog 36 #[.int .u64 (M.wd f k)] w fun e w' => e = .returned (.int .i64 (M.cnt f (64 * k) 64)) ∧ w' = w := by
  obtain ⟨x1, x2, x3, x4, x5, x6, e1, l1, e2, l2, l2', e3, e4, l4, e5, l5, e6, l6, ec, l3⟩ := M.ones_steps f (64 * k)
  have hx := M.wd_lt f k
  change M.wd f k < _ at hx
  have e1' : x1 = (M.wd f k / 2 &&& 6148914691236517205) + (M.wd f k &&& 6148914691236517205) := e1
  clear e1
  generalize M.wd f k = x at *
  generalize M.cnt f (64 * k) 64 = c at *
  have h1 : IntKind.u64.wrap (bits .and .u64 ((x : Int) / 2) 6148914691236517205 + bits .and .u64 (x : Int) 6148914691236517205) = (x1 : Int) := by
    have a := u64_and_nat (x / 2) 6148914691236517205 (Nat.lt_of_le_of_lt (Nat.div_le_self _ _) hx) (by decide)
    have b := u64_and_nat x 6148914691236517205 hx (by decide)
    rw [show ((x / 2 : Nat) : Int) = (x : Int) / 2 by simp] at a
    simp only [Int.cast_ofNat_Int] at a b
    rw [a, b, ← Int.natCast_add, ← e1', wrap_id _ l1]
  have h2 : IntKind.u64.wrap (bits .and .u64 ((x1 : Int) / 4) 3689348814741910323 + bits .and .u64 (x1 : Int) 3689348814741910323) = (x2 : Int) := by
    have a := u64_and_nat (x1 / 4) 3689348814741910323 (Nat.lt_of_le_of_lt (Nat.div_le_self _ _) l1) (by decide)
    have b := u64_and_nat x1 3689348814741910323 l1 (by decide)
    rw [show ((x1 / 4 : Nat) : Int) = (x1 : Int) / 4 by simp] at a
    simp only [Int.cast_ofNat_Int] at a b
    rw [a, b, ← Int.natCast_add, ← e2, wrap_id _ l2]
  have h3 : bits .and .u64 (IntKind.u64.wrap ((x2 : Int) / 16 + x2)) 1085102592571150095 = (x3 : Int) := by
    rw [show ((x2 : Int) / 16 + x2) = ((x2 / 16 + x2 : Nat) : Int) by simp, wrap_id _ l2']
    have a := u64_and_nat (x2 / 16 + x2) 1085102592571150095 l2' (by decide)
    simp only [Int.cast_ofNat_Int] at a
    rw [a, ← e3]
  have h4 : IntKind.u64.wrap ((x3 : Int) + x3 / 256) = (x4 : Int) := by
    rw [show ((x3 : Int) + x3 / 256) = ((x3 + x3 / 256 : Nat) : Int) by simp, ← e4, wrap_id _ l4]
  have h5 : IntKind.u64.wrap ((x4 : Int) + x4 / 65536) = (x5 : Int) := by
    rw [show ((x4 : Int) + x4 / 65536) = ((x4 + x4 / 65536 : Nat) : Int) by simp, ← e5, wrap_id _ l5]
  have h6 : IntKind.u64.wrap ((x5 : Int) + x5 / 4294967296) = (x6 : Int) := by
    rw [show ((x5 : Int) + x5 / 4294967296) = ((x5 + x5 / 4294967296 : Nat) : Int) by simp, ← e6, wrap_id _ (by omega)]
  have HC : Hid (x6 % 128 = c) := ec
  clear ec e1' e2 e3 e4 e5 e6 l1 l2 l2' l3 l4 l5
  go_enter Try.func36, Try.ntmps36
  go_wp2
  go_ret
  refine ⟨congrArg Ending.returned (congrArg (Value.int IntKind.i64) ?_), rfl⟩
  rw [i64_and127, ← HC.out]
  omega

theorem cnt_word (f : Nat → Bool) (k : Nat) : M.cnt f 0 (64 * (k + 1)) = M.cnt f 0 (64 * k) + M.cnt f (64 * k) 64 := by
  rw [Nat.mul_add, Nat.mul_one, M.cnt_add, Nat.zero_add]
theorem index64 (f : Nat → Bool) (k : Nat) (hk : k < 64) (w : World) : (Instr.index 64 (.agg (WA f)) (.int .i64 k)).run Try.prog w = .ok (.int .u64 (M.wd f k)) w := by
  have hg := WA_get f k hk
  simp [Instr.index, asIntOf, part, hk]
  rw [Array.getElem?_eq_getElem (by rw [WA_size]; exact hk)] at hg
  exact Option.some.inj hg
set_option maxRecDepth 100000 in
set_option maxHeartbeats 1000000 in
theorem count_any (b n : Nat) (f : Nat → Bool) (w : World) (h : MIs w b n f) :
    Calls Try.prog 21 #[.pointer (some ⟨b, 0, none⟩)] w fun e w' => e = .returned (.int .i64 (M.cnt f 0 n)) ∧ w' = w := by
  have ld := h.ld
  have HN : Hid (M.cnt f 0 4096 = M.cnt f 0 n) := M.cnt_to f n 4096 h.le h.off
  clear h
  go_enter Try.func21, Try.ntmps21
  go_wp2
  go_loopw [3, 12] (fun c i wr => ∃ k : Nat, k ≤ 64 ∧ i = .int .i64 k ∧ c = .int .i64 (M.cnt f 0 (64 * k)) ∧ wr = w) (fun _ i _ => 64 - (intOf i).toNat)
  case atStart => exact ⟨0, by omega, rfl, rfl, rfl⟩
  case round =>
    obtain ⟨k, hk, rfl, rfl, rfl⟩ := hrel
    by_cases hlt : k < 64
    · have hg := fun w => index64 f k hlt w
      have HC : Hid (M.cnt f 0 (64 * (k + 1)) = M.cnt f 0 (64 * k) + M.cnt f (64 * k) 64) := cnt_word f k
      have h1 := M.cnt_le f 0 (64 * k)
      have h2 := M.cnt_le f (64 * k) 64
      have HO := ones_any f k wr
      generalize M.wd f k = x at *
      generalize M.cnt f (64 * k) 64 = c at *
      generalize M.cnt f 0 (64 * k) = d at *
      have hd : d ≤ 4096 := by omega
      go_wp2_with fail
      refine HO.mono ?_
      rintro e w1 ⟨rfl, rfl⟩
      go_wp2
      go_roundw
      case rel => exact ⟨k + 1, by omega, by go_num, by rw [HC.out]; go_num, trivial⟩
      case measure => simp [intOf]; omega
    · have hk64 : k = 64 := by omega
      subst hk64
      rw [show 64 * 64 = 4096 from rfl] at *
      rw [HN.out]
      go_wp2
      go_ret
      exact ⟨rfl, rfl⟩
set_option maxHeartbeats 1000000 in
theorem count_nil (w : World) :
    Calls Try.prog 21 #[.pointer none] w fun e w' => e = .returned (.int .i64 0) ∧ w' = w := by
  go_enter Try.func21, Try.ntmps21
  go_wp2
  go_ret
  exact ⟨rfl, rfl⟩
end Go.Proofs.Ytigoadfbccpmkaa
