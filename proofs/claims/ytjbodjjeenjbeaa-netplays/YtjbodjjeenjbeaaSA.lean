/-
  The calls that shift and sum return what the plain functions of the text M say, for every input.
-/
import Derived.Test.YtjbodjjeenjbeaaRows
import Derived.Test.YtjbodjjeenjbeaaSM
import Derived.Test.YtjbodjjeenjbeaaB
import Derived.WalkKit
import Derived.WalkSpells
import Derived.WalkLawsBesides
import Derived.Deep.QuietTactic
import Derived.BigQuiet
import Derived.WalkMore
import Derived.ScopeJumps
namespace Go.Proofs.Ytjbodjjeenjbeaa
open Go.RowKit
set_option linter.unusedVariables false

theorem xor_bits (a b : BitVec 32) : bits .xor .u32 (a.toNat : Int) (b.toNat : Int) = ((a ^^^ b).toNat : Int) := by
  rw [u32_xor_nat _ _ a.isLt b.isLt, BitVec.toNat_xor]
theorem and_bits (a b : BitVec 32) : bits .and .u32 (a.toNat : Int) (b.toNat : Int) = ((a &&& b).toNat : Int) := by
  rw [u32_and_nat _ _ a.isLt b.isLt, BitVec.toNat_and]
theorem and_one_bits (a : BitVec 32) : bits .and .u32 (a.toNat : Int) 1 = ((a &&& 1#32).toNat : Int) := and_bits a 1#32
theorem half_bits (a : BitVec 32) : ((a.toNat : Int) / (2 : Int)) = ((a >>> 1).toNat : Int) := by
  rw [BitVec.toNat_ushiftRight, Nat.shiftRight_eq_div_pow]
  omega
theorem sh_bits (c : BitVec 32) : bits .xor .u32 ((c.toNat : Int) / 2) (3988292384 * bits .and .u32 (c.toNat : Int) 1 % 4294967296) = ((K2.sh c).toNat : Int) := by
  have e : 3988292384 * ((c &&& 1#32).toNat : Int) % 4294967296 = ((K2.poly * (c &&& 1#32)).toNat : Int) := by
    rw [BitVec.toNat_mul]
    show _ = ((3988292384 * (c &&& 1#32).toNat % 4294967296 : Nat) : Int)
    omega
  rw [and_one_bits, e, half_bits, xor_bits]
  rfl

set_option maxRecDepth 1000000 in
set_option maxHeartbeats 400000 in
theorem shift_any (c : BitVec 32) (n : Nat) (hn : n ≤ 8) (w : World) :
    Calls Try.prog 84 #[.int .u32 c.toNat, .int .i64 n] w fun e w' => e = .returned (.int .u32 (K2.shn n c).toNat) ∧ w' = w := by
  have hc : c.toNat < 4294967296 := c.isLt
  go_enter Try.func84, Try.ntmps84
  go_wp2
  refine wp_scope_jumps 0 (fun a' w' => w' = w ∧ ∃ (m : Nat) (d : BitVec 32) (u5 u6 u7 u8 u9 u10 u11 u12 u13 u14 u15 u16 u17 : Value), a' = { tmps := #[.int .u32 d.toNat, .int .i64 m, undef, undef, .int .u32 0, u5, u6, u7, u8, u9, u10, u11, u12, u13, u14, u15, u16, u17], defers := [] } ∧ K2.shn m d = K2.shn n c ∧ m ≤ 8) (fun a' _ => (intOf (a'.tmps.getD 1 undef)).toNat) rfl ?_ ?_
  · go_wp2
    go_step3
    go_wp2
    · rename_i h0
      simp only [Exit.jump]
      go_ret
      have hz : n = 0 := by simpa using h0
      subst hz
      exact ⟨rfl, rfl⟩
    · rename_i h0
      go_step3
      have hz : n ≠ 0 := by
        rintro rfl
        simp at h0
      obtain ⟨m, rfl⟩ : ∃ m, n = m + 1 := ⟨n - 1, by omega⟩
      rw [sh_bits, show ((m + 1 : Nat) : Int) - 1 = (m : Int) by omega]
      exact ⟨rfl, rfl, m, K2.sh c, _, _, _, _, _, _, _, _, _, _, _, _, _, rfl, rfl, by omega⟩
  · rintro a' w' ⟨rfl, m, d, u5, u6, u7, u8, u9, u10, u11, u12, u13, u14, u15, u16, u17, rfl, hs, hm⟩
    have hd : d.toNat < 4294967296 := d.isLt
    have HS : Hid (K2.shn m d = K2.shn n c) := hs
    clear hs
    go_wp2
    · rename_i h0
      simp only [Exit.jump]
      go_ret
      have hz : m = 0 := by simpa using h0
      subst hz
      rw [← HS.out]
      exact ⟨rfl, rfl⟩
    · rename_i h0
      go_step3
      have hz : m ≠ 0 := by
        rintro rfl
        simp at h0
      obtain ⟨j, rfl⟩ : ∃ j, m = j + 1 := ⟨m - 1, by omega⟩
      rw [sh_bits, show ((j + 1 : Nat) : Int) - 1 = (j : Int) by omega]
      refine ⟨rfl, ⟨rfl, j, K2.sh d, _, _, _, _, _, _, _, _, _, _, _, _, _, rfl, HS.out, by omega⟩, ?_⟩
      simp [intOf]
theorem shift8_any (c : BitVec 32) (w : World) :
    Calls Try.prog 84 #[.int .u32 c.toNat, .int .i64 8] w fun e w' => e = .returned (.int .u32 (K2.shn 8 c).toNat) ∧ w' = w := shift_any c 8 (by decide) w
theorem shift1_any (c : BitVec 32) (w : World) :
    Calls Try.prog 84 #[.int .u32 c.toNat, .int .i64 1] w fun e w' => e = .returned (.int .u32 (K2.sh c).toNat) ∧ w' = w := shift_any c 1 (by decide) w

/-! the document's step -/
theorem convert_wide (b : UInt8) : (b.toNat : Int) = ((K2.wide b).toNat : Int) := by
  unfold K2.wide
  rw [BitVec.toNat_setWidth, Nat.mod_eq_of_lt]
  · rfl
  · exact Nat.lt_of_lt_of_le b.toNat_lt (by decide)

theorem and_bit (d : BitVec 32) (v : Bool) (h : d.getLsbD 0 = v) : bits .and .u32 (d.toNat : Int) 1 = if v then 1 else 0 := by
  rw [and_one_bits, K2.and_one, h]
  cases v <;> rfl
theorem sh_even (d : BitVec 32) (h : d.getLsbD 0 = false) : ((d.toNat : Int) / (2 : Int)) = ((K2.sh d).toNat : Int) := by
  rw [K2.sh_if, h, half_bits]
  simp
theorem sh_odd (d : BitVec 32) (h : d.getLsbD 0 = true) : bits .xor .u32 ((d.toNat : Int) / (2 : Int)) 3988292384 = ((K2.sh d).toNat : Int) := by
  rw [K2.sh_if, h, half_bits]
  exact xor_bits (d >>> 1) K2.poly

set_option maxHeartbeats 400000 in
theorem refStep_any (c : BitVec 32) (b : UInt8) (w : World) :
    Calls Try.prog 81 #[.int .u32 c.toNat, .int .u8 b.toNat] w fun e w' => e = .returned (.int .u32 (K2.step c b).toNat) ∧ w' = w := by
  have hc : c.toNat < 4294967296 := c.isLt
  have hb : b.toNat < 256 := b.toNat_lt
  go_enter Try.func81, Try.ntmps81
  go_wp2
  rw [convert_wide b, xor_bits]
  go_loop [0, 5] (fun x i => ∃ k : Nat, k ≤ 8 ∧ i = .int .i64 k ∧ x = .int .u32 (K2.shn k (c ^^^ K2.wide b)).toNat) (fun _ i => 8 - (intOf i).toNat)
  case atStart => exact ⟨0, Nat.zero_le _, rfl, rfl⟩
  case round =>
    obtain ⟨k, hk, rfl, rfl⟩ := hrel
    have HE : Hid (K2.shn (k + 1) (c ^^^ K2.wide b) = K2.sh (K2.shn k (c ^^^ K2.wide b))) := K2.shn_succ _ _
    have HE8 : Hid (k = 8 → K2.shn k (c ^^^ K2.wide b) = K2.step c b) := fun h => by rw [h]; rfl
    generalize K2.shn k (c ^^^ K2.wide b) = d at HE HE8 ⊢
    have hd : d.toNat < 4294967296 := d.isLt
    by_cases hlt : k < 8
    · cases hbit : d.getLsbD 0
      · have h1 := and_bit d _ hbit
        simp only [Bool.false_eq_true, if_false] at h1
        go_wp2
        go_round
        case rel => exact ⟨k + 1, by omega, by go_num, by rw [sh_even d hbit, HE.out]⟩
        case measure => simp [intOf]; omega
      · have h1 := and_bit d _ hbit
        simp only [if_true] at h1
        go_wp2
        go_round
        case rel => exact ⟨k + 1, by omega, by go_num, by rw [sh_odd d hbit, HE.out]⟩
        case measure => simp [intOf]; omega
    · go_wp2
      go_ret
      rw [HE8.out (by omega)]
      exact ⟨rfl, rfl⟩

theorem max_bits (c : BitVec 32) : bits .xor .u32 IntKind.u32.max (c.toNat : Int) = ((~~~ c).toNat : Int) := by
  have h := xor_bits (~~~ 0#32) c
  rw [← K2.not_xor] at h
  exact h
theorem run_on (c : BitVec 32) (s : ByteArray) (k : Nat) (h : k < s.size) :
    K2.run c (s.data.toList.take (k + 1)) = K2.step (K2.run c (s.data.toList.take k)) s[k] := by
  rw [List.take_succ_eq_append_getElem (by rw [len_data]; exact h), K2.run_snoc]
  rfl
theorem run_all (c : BitVec 32) (s : ByteArray) (k : Nat) (h : s.size ≤ k) :
    K2.run c (s.data.toList.take k) = K2.run c s.data.toList := by
  rw [List.take_of_length_le (by rw [len_data]; exact h)]

set_option maxHeartbeats 400000 in
theorem more_any (c : BitVec 32) (s : ByteArray) (w : World) (hs : s.size ≤ maxLen) :
    Calls Try.prog 79 #[.int .u32 c.toNat, .string s] w fun e w' => e = .returned (.int .u32 (K2.more c s.data.toList).toNat) ∧ w' = w := by
  have hc : c.toNat < 4294967296 := c.isLt
  unfold maxLen at hs
  go_enter Try.func79, Try.ntmps79
  go_wp2
  rw [max_bits]
  obtain ⟨c1, hc1⟩ : ∃ c1, c1 = ~~~ c := ⟨_, rfl⟩
  rw [← hc1]
  have HC1 : Hid (c1 = ~~~ c) := hc1
  clear hc1
  go_loop [5, 11] (fun x i => ∃ k : Nat, k ≤ s.size ∧ i = .int .i64 k ∧ x = .int .u32 (K2.run c1 (s.data.toList.take k)).toNat) (fun _ i => s.size - (intOf i).toNat)
  case atStart => exact ⟨0, Nat.zero_le _, rfl, rfl⟩
  case round =>
    obtain ⟨k, hk, rfl, rfl⟩ := hrel
    by_cases hlt : k < s.size
    · have HE : Hid (_ = _) := run_on c1 s k hlt
      generalize K2.run c1 (s.data.toList.take k) = d at HE ⊢
      have hd : d.toNat < 4294967296 := d.isLt
      obtain ⟨x, hX0⟩ : ∃ x, x = d ^^^ K2.wide s[k] := ⟨_, rfl⟩
      have hX : Hid (x = d ^^^ K2.wide s[k]) := hX0
      clear hX0
      have hx : bits .xor .u32 (d.toNat : Int) (s[k].toNat : Int) = (x.toNat : Int) := by rw [convert_wide, xor_bits, hX.out]
      have hsk : s[k].toNat < 256 := s[k].toNat_lt
      have hm : ((s[k].toNat : Int) % 4294967296) = (s[k].toNat : Int) := by omega
      go_wp2_with fail
      try rw [hm]
      try rw [hx]
      refine (shift8_any x w).mono ?_
      rintro e w1 ⟨rfl, rfl⟩
      go_wp2
      go_round
      case rel => exact ⟨k + 1, by omega, by go_num, by rw [HE.out, hX.out]; rfl⟩
      case measure => simp [intOf]; omega
    · have HE : Hid (_ = _) := run_all c1 s k (by omega)
      generalize K2.run c1 (s.data.toList.take k) = d at HE ⊢
      have hd : d.toNat < 4294967296 := d.isLt
      go_wp2
      go_ret
      rw [max_bits, HE.out, HC1.out]
      exact ⟨rfl, rfl⟩

theorem ones_bits (c : BitVec 32) : bits .xor .u32 (c.toNat : Int) 4294967295 = ((~~~ c).toNat : Int) := by
  have h := xor_bits c (~~~ 0#32)
  rw [BitVec.xor_comm, ← K2.not_xor] at h
  exact h

set_option maxHeartbeats 400000 in
theorem refMore_any (c : BitVec 32) (s : ByteArray) (w : World) (hs : s.size ≤ maxLen) :
    Calls Try.prog 71 #[.int .u32 c.toNat, .string s] w fun e w' => e = .returned (.int .u32 (K2.more c s.data.toList).toNat) ∧ w' = w := by
  have hc : c.toNat < 4294967296 := c.isLt
  unfold maxLen at hs
  go_enter Try.func71, Try.ntmps71
  go_wp2
  rw [ones_bits]
  obtain ⟨c1, hc1⟩ : ∃ c1, c1 = ~~~ c := ⟨_, rfl⟩
  rw [← hc1]
  have HC1 : Hid (c1 = ~~~ c) := hc1
  clear hc1
  go_loop [5, 6] (fun x i => ∃ k : Nat, k ≤ s.size ∧ i = .int .i64 k ∧ x = .int .u32 (K2.run c1 (s.data.toList.take k)).toNat) (fun _ i => s.size - (intOf i).toNat)
  case atStart => exact ⟨0, Nat.zero_le _, rfl, rfl⟩
  case round =>
    obtain ⟨k, hk, rfl, rfl⟩ := hrel
    by_cases hlt : k < s.size
    · have HE : Hid (_ = _) := run_on c1 s k hlt
      generalize K2.run c1 (s.data.toList.take k) = d at HE ⊢
      have hd : d.toNat < 4294967296 := d.isLt
      go_wp2_with fail
      refine (refStep_any d s[k] w).mono ?_
      rintro e w1 ⟨rfl, rfl⟩
      go_wp2
      go_round
      case rel => exact ⟨k + 1, by omega, by go_num, by rw [HE.out]⟩
      case measure => simp [intOf]; omega
    · have HE : Hid (_ = _) := run_all c1 s k (by omega)
      generalize K2.run c1 (s.data.toList.take k) = d at HE ⊢
      have hd : d.toNat < 4294967296 := d.isLt
      go_wp2
      go_ret
      rw [ones_bits, HE.out, HC1.out]
      exact ⟨rfl, rfl⟩

set_option maxHeartbeats 400000 in
theorem sum_any (s : ByteArray) (w : World) (hs : s.size ≤ maxLen) :
    Calls Try.prog 67 #[.string s] w fun e w' => e = .returned (.int .u32 (K2.sum s.data.toList).toNat) ∧ w' = w := by
  go_enter Try.func67, Try.ntmps67
  go_wp2_with fail
  refine (more_any 0#32 s w hs).mono ?_
  rintro e w1 ⟨rfl, rfl⟩
  go_wp2
  go_ret
  exact ⟨rfl, rfl⟩

set_option maxHeartbeats 400000 in
theorem refSum_any (s : ByteArray) (w : World) (hs : s.size ≤ maxLen) :
    Calls Try.prog 60 #[.string s] w fun e w' => e = .returned (.int .u32 (K2.sum s.data.toList).toNat) ∧ w' = w := by
  go_enter Try.func60, Try.ntmps60
  go_wp2_with fail
  refine (refMore_any 0#32 s w hs).mono ?_
  rintro e w1 ⟨rfl, rfl⟩
  go_wp2
  go_ret
  exact ⟨rfl, rfl⟩
end Go.Proofs.Ytjbodjjeenjbeaa
