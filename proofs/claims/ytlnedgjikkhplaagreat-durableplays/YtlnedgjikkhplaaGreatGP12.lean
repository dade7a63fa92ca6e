import Derived.Test.YtlnedgjikkhplaaGreatGP09
import Derived.WalkMore
import Derived.ScopeJumps
set_option maxRecDepth 100000
set_option maxHeartbeats 8000000
set_option linter.unusedVariables false
set_option linter.unusedSimpArgs false
namespace Go.Proofs.YtlnedgjikkhplaaGreat.Ns
open Go.RowKit
open M (ofL ofL_size ofL_of)
theorem ret_int {k : IntKind} {a b : Int} (h : a = b) : Ending.returned (.int k a) = .returned (.int k b) := by rw [h]
theorem xor_bits (a b : BitVec 32) : bits .xor .u32 (a.toNat : Int) (b.toNat : Int) = ((a ^^^ b).toNat : Int) := by
 rw [u32_xor_nat _ _ a.isLt b.isLt, BitVec.toNat_xor]
theorem and_bits (a b : BitVec 32) : bits .and .u32 (a.toNat : Int) (b.toNat : Int) = ((a &&& b).toNat : Int) := by
 rw [u32_and_nat _ _ a.isLt b.isLt, BitVec.toNat_and]
theorem and_one_bits (a : BitVec 32) : bits .and .u32 (a.toNat : Int) 1 = ((a &&& 1#32).toNat : Int) := and_bits a 1#32
theorem half_bits (a : BitVec 32) : ((a.toNat : Int) / (2 : Int)) = ((a >>> 1).toNat : Int) := by
 rw [BitVec.toNat_ushiftRight, Nat.shiftRight_eq_div_pow]
 omega
theorem sh_bits (c : BitVec 32) : bits .xor .u32 ((c.toNat : Int) / 2) (3988292384 * bits .and .u32 (c.toNat : Int) 1 % 4294967296) = ((K2.sh c).toNat : Int) := by
 have e : 3988292384 * ((c &&& 1#32).toNat : Int) % 4294967296 = ((K2.poly * (c &&& 1#32)).toNat : Int) := by
  rw [BitVec.toNat_mul]
  show _ = ((3988292384 * (c &&& 1#32).toNat % 4294967296 : Nat) : Int)
  omega
 rw [and_one_bits, e, half_bits, xor_bits]
 rfl
theorem shift_any (c : BitVec 32) (n : Nat) (hn : n ≤ 8) (w : World) :
  Calls Tryz.prog 220 #[.int .u32 c.toNat, .int .i64 n] w fun e w' => e = .returned (.int .u32 (K2.shn n c).toNat) ∧ w' = w := by
 have hc : c.toNat < 4294967296 := c.isLt
 go_enter Tryz.func220, Tryz.ntmps220
 go_wp2
 refine wp_scope_jumps 0 (fun a' w' => w' = w ∧ ∃ (m : Nat) (d : BitVec 32) (u5 u6 u7 u8 u9 u10 u11 u12 u13 u14 u15 u16 u17 : Value), a' = { tmps := #[.int .u32 d.toNat, .int .i64 m, undef, undef, .int .u32 0, u5, u6, u7, u8, u9, u10, u11, u12, u13, u14, u15, u16, u17], defers := [] } ∧ K2.shn m d = K2.shn n c ∧ m ≤ 8) (fun a' _ => (intOf (a'.tmps.getD 1 undef)).toNat) rfl ?_ ?_
 ·go_wp2
  go_step3
  go_wp2
  ·rename_i h0
   simp only [Exit.jump]
   go_ret
   have hz : n = 0 := by simpa using h0
   subst hz
   exact ⟨rfl, rfl⟩
  ·rename_i h0
   go_step3
   have hz : n ≠ 0 := by
    rintro rfl
    simp at h0
   obtain ⟨m, rfl⟩ : ∃ m, n = m + 1 := ⟨n - 1, by omega⟩
   rw [sh_bits, show ((m + 1 : Nat) : Int) - 1 = (m : Int) by omega]
   exact ⟨rfl, rfl, m, K2.sh c, _, _, _, _, _, _, _, _, _, _, _, _, _, rfl, rfl, by omega⟩
 ·rintro a' w' ⟨rfl, m, d, u5, u6, u7, u8, u9, u10, u11, u12, u13, u14, u15, u16, u17, rfl, hs, hm⟩
  have hd : d.toNat < 4294967296 := d.isLt
  have HS : Hid (K2.shn m d = K2.shn n c) := hs
  clear hs; go_wp2
  ·rename_i h0
   simp only [Exit.jump]
   go_ret
   have hz : m = 0 := by simpa using h0
   subst hz; rw [← HS.out]
   exact ⟨rfl, rfl⟩
  ·rename_i h0
   go_step3
   have hz : m ≠ 0 := by
    rintro rfl
    simp at h0
   obtain ⟨j, rfl⟩ : ∃ j, m = j + 1 := ⟨m - 1, by omega⟩
   rw [sh_bits, show ((j + 1 : Nat) : Int) - 1 = (j : Int) by omega]
   refine ⟨rfl, ⟨rfl, j, K2.sh d, _, _, _, _, _, _, _, _, _, _, _, _, _, rfl, HS.out, by omega⟩, ?_⟩
   simp [intOf]
theorem shift8_any (c : BitVec 32) (w : World) :
  Calls Tryz.prog 220 #[.int .u32 c.toNat, .int .i64 8] w fun e w' => e = .returned (.int .u32 (K2.shn 8 c).toNat) ∧ w' = w := shift_any c 8 (by decide) w
theorem convert_wide (b : UInt8) : (b.toNat : Int) = ((K2.wide b).toNat : Int) := by
 unfold K2.wide; rw [BitVec.toNat_setWidth, Nat.mod_eq_of_lt]
 ·rfl
 ·exact Nat.lt_of_lt_of_le b.toNat_lt (by decide)
theorem and_bit (d : BitVec 32) (v : Bool) (h : d.getLsbD 0 = v) : bits .and .u32 (d.toNat : Int) 1 = if v then 1 else 0 := by
 rw [and_one_bits, K2.and_one, h]
 cases v <;> rfl
theorem sh_even (d : BitVec 32) (h : d.getLsbD 0 = false) : ((d.toNat : Int) / (2 : Int)) = ((K2.sh d).toNat : Int) := by
 rw [K2.sh_if, h, half_bits]
 simp
theorem sh_odd (d : BitVec 32) (h : d.getLsbD 0 = true) : bits .xor .u32 ((d.toNat : Int) / (2 : Int)) 3988292384 = ((K2.sh d).toNat : Int) := by
 rw [K2.sh_if, h, half_bits]
 exact xor_bits (d >>> 1) K2.poly
theorem refStep_any (c : BitVec 32) (b : UInt8) (w : World) :
  Calls Tryz.prog 216 #[.int .u32 c.toNat, .int .u8 b.toNat] w fun e w' => e = .returned (.int .u32 (K2.step c b).toNat) ∧ w' = w := by
 have hc : c.toNat < 4294967296 := c.isLt
 have hb : b.toNat < 256 := b.toNat_lt
 go_enter Tryz.func216, Tryz.ntmps216
 go_wp2; rw [convert_wide b, xor_bits]
 go_loop [0, 5] (fun x i => ∃ k : Nat, k ≤ 8 ∧ i = .int .i64 k ∧ x = .int .u32 (K2.shn k (c ^^^ K2.wide b)).toNat) (fun _ i => 8 - (intOf i).toNat)
 case atStart => exact ⟨0, Nat.zero_le _, rfl, rfl⟩
 case round =>
  obtain ⟨k, hk, rfl, rfl⟩ := hrel
  have HE : Hid (K2.shn (k + 1) (c ^^^ K2.wide b) = K2.sh (K2.shn k (c ^^^ K2.wide b))) := K2.shn_succ _ _
  have HE8 : Hid (k = 8 → K2.shn k (c ^^^ K2.wide b) = K2.step c b) := fun h => by rw [h]; rfl
  generalize K2.shn k (c ^^^ K2.wide b) = d at HE HE8 ⊢
  have hd : d.toNat < 4294967296 := d.isLt
  by_cases hlt : k < 8
  ·cases hbit : d.getLsbD 0
   ·have h1 := and_bit d _ hbit
    simp only [Bool.false_eq_true, if_false] at h1
    go_wp2
    go_round
    case rel => exact ⟨k + 1, by omega, by go_num, by rw [sh_even d hbit, HE.out]⟩
    case measure => simp [intOf]; omega
   ·have h1 := and_bit d _ hbit
    simp only [if_true] at h1
    go_wp2
    go_round
    case rel => exact ⟨k + 1, by omega, by go_num, by rw [sh_odd d hbit, HE.out]⟩
    case measure => simp [intOf]; omega
  ·go_wp2
   go_ret
   rw [HE8.out (by omega)]
   exact ⟨rfl, rfl⟩
theorem max_bits (c : BitVec 32) : bits .xor .u32 IntKind.u32.max (c.toNat : Int) = ((~~~ c).toNat : Int) := by
 have h := xor_bits (~~~ 0#32) c
 rw [← K2.not_xor] at h
 exact h
theorem run_on (c : BitVec 32) (s : ByteArray) (k : Nat) (h : k < s.size) :
  K2.run c (s.data.toList.take (k + 1)) = K2.step (K2.run c (s.data.toList.take k)) s[k] := by
 rw [List.take_succ_eq_append_getElem (by rw [len_data]; exact h), K2.run_snoc]
 rfl
theorem run_all (c : BitVec 32) (s : ByteArray) (k : Nat) (h : s.size ≤ k) :
  K2.run c (s.data.toList.take k) = K2.run c s.data.toList := by
 rw [List.take_of_length_le (by rw [len_data]; exact h)]
theorem more_any (c : BitVec 32) (s : ByteArray) (w : World) (hs : s.size ≤ maxLen) :
  Calls Tryz.prog 209 #[.int .u32 c.toNat, .string s] w fun e w' => e = .returned (.int .u32 (K2.more c s.data.toList).toNat) ∧ w' = w := by
 have hc : c.toNat < 4294967296 := c.isLt
 unfold maxLen at hs
 go_enter Tryz.func209, Tryz.ntmps209
 go_wp2; rw [max_bits]
 obtain ⟨c1, hc1⟩ : ∃ c1, c1 = ~~~ c := ⟨_, rfl⟩
 rw [← hc1]
 have HC1 : Hid (c1 = ~~~ c) := hc1
 clear hc1
 go_loop [5, 11] (fun x i => ∃ k : Nat, k ≤ s.size ∧ i = .int .i64 k ∧ x = .int .u32 (K2.run c1 (s.data.toList.take k)).toNat) (fun _ i => s.size - (intOf i).toNat)
 case atStart => exact ⟨0, Nat.zero_le _, rfl, rfl⟩
 case round =>
  obtain ⟨k, hk, rfl, rfl⟩ := hrel
  by_cases hlt : k < s.size
  ·have HE : Hid (_ = _) := run_on c1 s k hlt
   generalize K2.run c1 (s.data.toList.take k) = d at HE ⊢
   have hd : d.toNat < 4294967296 := d.isLt
   obtain ⟨x, hX0⟩ : ∃ x, x = d ^^^ K2.wide s[k] := ⟨_, rfl⟩
   have hX : Hid (x = d ^^^ K2.wide s[k]) := hX0
   clear hX0
   have hx : bits .xor .u32 (d.toNat : Int) (s[k].toNat : Int) = (x.toNat : Int) := by rw [convert_wide, xor_bits, hX.out]
   have hsk : s[k].toNat < 256 := s[k].toNat_lt
   have hm : ((s[k].toNat : Int) % 4294967296) = (s[k].toNat : Int) := by omega
   go_wp2_with fail
   try rw [hm]
   try rw [hx]
   refine (shift8_any x w).mono ?_; rintro e w1 ⟨rfl, rfl⟩
   go_wp2
   go_round
   case rel => exact ⟨k + 1, by omega, by go_num, by rw [HE.out, hX.out]; rfl⟩
   case measure => simp [intOf]; omega
  ·have HE : Hid (_ = _) := run_all c1 s k (by omega)
   generalize K2.run c1 (s.data.toList.take k) = d at HE ⊢
   have hd : d.toNat < 4294967296 := d.isLt
   go_wp2
   go_ret
   rw [max_bits, HE.out, HC1.out]
   exact ⟨rfl, rfl⟩
theorem ones_bits (c : BitVec 32) : bits .xor .u32 (c.toNat : Int) 4294967295 = ((~~~ c).toNat : Int) := by
 have h := xor_bits c (~~~ 0#32)
 rw [BitVec.xor_comm, ← K2.not_xor] at h
 exact h
theorem refMore_any (c : BitVec 32) (s : ByteArray) (w : World) (hs : s.size ≤ maxLen) :
  Calls Tryz.prog 195 #[.int .u32 c.toNat, .string s] w fun e w' => e = .returned (.int .u32 (K2.more c s.data.toList).toNat) ∧ w' = w := by
 have hc : c.toNat < 4294967296 := c.isLt
 unfold maxLen at hs
 go_enter Tryz.func195, Tryz.ntmps195
 go_wp2; rw [ones_bits]
 obtain ⟨c1, hc1⟩ : ∃ c1, c1 = ~~~ c := ⟨_, rfl⟩
 rw [← hc1]
 have HC1 : Hid (c1 = ~~~ c) := hc1
 clear hc1
 go_loop [5, 6] (fun x i => ∃ k : Nat, k ≤ s.size ∧ i = .int .i64 k ∧ x = .int .u32 (K2.run c1 (s.data.toList.take k)).toNat) (fun _ i => s.size - (intOf i).toNat)
 case atStart => exact ⟨0, Nat.zero_le _, rfl, rfl⟩
 case round =>
  obtain ⟨k, hk, rfl, rfl⟩ := hrel
  by_cases hlt : k < s.size
  ·have HE : Hid (_ = _) := run_on c1 s k hlt
   generalize K2.run c1 (s.data.toList.take k) = d at HE ⊢
   have hd : d.toNat < 4294967296 := d.isLt
   go_wp2_with fail
   refine (refStep_any d s[k] w).mono ?_; rintro e w1 ⟨rfl, rfl⟩
   go_wp2
   go_round
   case rel => exact ⟨k + 1, by omega, by go_num, by rw [HE.out]⟩
   case measure => simp [intOf]; omega
  ·have HE : Hid (_ = _) := run_all c1 s k (by omega)
   generalize K2.run c1 (s.data.toList.take k) = d at HE ⊢
   have hd : d.toNat < 4294967296 := d.isLt
   go_wp2
   go_ret
   rw [ones_bits, HE.out, HC1.out]
   exact ⟨rfl, rfl⟩
theorem sum_any (s : ByteArray) (w : World) (hs : s.size ≤ maxLen) :
  Calls Tryz.prog 179 #[.string s] w fun e w' => e = .returned (.int .u32 (K2.sum s.data.toList).toNat) ∧ w' = w := by
 go_enter Tryz.func179, Tryz.ntmps179
 go_wp2_with fail
 refine (more_any 0#32 s w hs).mono ?_; rintro e w1 ⟨rfl, rfl⟩
 go_wp2
 go_ret
 exact ⟨rfl, rfl⟩
theorem refSum_any (s : ByteArray) (w : World) (hs : s.size ≤ maxLen) :
  Calls Tryz.prog 163 #[.string s] w fun e w' => e = .returned (.int .u32 (K2.sum s.data.toList).toNat) ∧ w' = w := by
 go_enter Tryz.func163, Tryz.ntmps163
 go_wp2_with fail
 refine (refMore_any 0#32 s w hs).mono ?_; rintro e w1 ⟨rfl, rfl⟩
 go_wp2
 go_ret
 exact ⟨rfl, rfl⟩
theorem byte_bits (x : BitVec 32) (k : Nat) : ((K2.byte x k).toNat : Int) = (x.toNat : Int) / ((2 ^ k : Nat) : Int) % 256 := by
 unfold K2.byte; rw [UInt8.toNat_ofBitVec, BitVec.toNat_setWidth, BitVec.toNat_ushiftRight, Nat.shiftRight_eq_div_pow]
 omega
theorem four_convert (w : World) (x : BitVec 32) :
  (Go.convert 138 9 (.slice (some ⟨w.heap.size, 0, none⟩) 4 4)).run Tryz.prog (w.alloc (.cells #[.int .u8 ((x.toNat : Int) % 256), .int .u8 ((x.toNat : Int) / 256 % 256), .int .u8 ((x.toNat : Int) / 65536 % 256), .int .u8 ((x.toNat : Int) / 16777216)] 5)) = .ok (.string (ofL (K2.four x))) (w.alloc (.cells #[.int .u8 ((x.toNat : Int) % 256), .int .u8 ((x.toNat : Int) / 256 % 256), .int .u8 ((x.toNat : Int) / 65536 % 256), .int .u8 ((x.toNat : Int) / 16777216)] 5)) := by
 have hx : x.toNat < 4294967296 := x.isLt
 have b0 := byte_bits x 0
 have b1 := byte_bits x 8
 have b2 := byte_bits x 16
 have b3 := byte_bits x 24
 simp only [Nat.pow_zero, Nat.reducePow, Int.cast_ofNat_Int] at b0 b1 b2 b3
 refine run_convert_bytes_back _ 138 9 5 ⟨w.heap.size, 0, none⟩ 4 (K2.four x) Tryz.underlying138 Tryz.underlying5 Tryz.underlying9 fun j hj => ?_
 rw [show ((⟨w.heap.size, 0, none⟩ : Addr).add j) = ⟨w.heap.size, j, none⟩ by unfold Addr.add; split <;> simp_all]
 rw [cell_of_row _ _ _ _ _ _ (heap_alloc_new w _)]; rw [K2.four_len] at hj
 match j, hj with
 | 0, _ => show some (Value.int .u8 ((x.toNat : Int) % 256)) = some (.int .u8 ((K2.byte x 0).toNat : Int)); rw [b0]; simp
 | 1, _ => show some (Value.int .u8 ((x.toNat : Int) / 256 % 256)) = some (.int .u8 ((K2.byte x 8).toNat : Int)); rw [b1]
 | 2, _ => show some (Value.int .u8 ((x.toNat : Int) / 65536 % 256)) = some (.int .u8 ((K2.byte x 16).toNat : Int)); rw [b2]
 | 3, _ => show some (Value.int .u8 ((x.toNat : Int) / 16777216)) = some (.int .u8 ((K2.byte x 24).toNat : Int)); rw [b3, Int.emod_eq_of_lt (by omega) (by omega)]
theorem refFour_any (x : BitVec 32) (w : World) :
  Calls Tryz.prog 162 #[.int .u32 x.toNat] w fun e w' => e = .returned (.string (ofL (K2.four x))) ∧ Below w.heap.size w w' := by
 have hx : x.toNat < 4294967296 := x.isLt
 have hcv := four_convert w x
 go_enter Tryz.func162, Tryz.ntmps162
 go_wp2
 go_ret
 exact ⟨rfl, (Below.refl _ _).alloc Lr _⟩
theorem sealed_app (s : ByteArray) : s ++ ofL (K2.four (K2.sum s.data.toList)) = ofL (K2.sealed s.data.toList) := by
 apply ByteArray.ext
 simp [ofL, K2.sealed]
theorem seal_any (s : ByteArray) (w : World) (hs : s.size ≤ 140737488351232) :
  Calls Tryz.prog 151 #[.string s] w fun e w' => e = .returned (.string (ofL (K2.sealed s.data.toList))) ∧ Below w.heap.size w w' := by
 go_enter Tryz.func151, Tryz.ntmps151
 go_wp2_with fail
 refine (sum_any s w (by unfold maxLen; omega)).mono ?_; rintro e w1 ⟨rfl, rfl⟩
 have HS : Hid (_ = _) := sealed_app s
 generalize K2.sum s.data.toList = x at HS ⊢
 have hx : x.toNat < 4294967296 := x.isLt
 have hcv := four_convert w1 x
 have hF4 : (ofL (K2.four x)).size = 4 := by rw [ofL_size]; rfl
 generalize ofL (K2.four x) = F at HS hcv hF4 ⊢
 go_wp2
 go_ret
 rw [HS.out]
 exact ⟨rfl, (Below.refl _ _).alloc Lr _⟩
theorem refSeal_any (s : ByteArray) (w : World) (hs : s.size ≤ 140737488351232) :
  Calls Tryz.prog 125 #[.string s] w fun e w' => e = .returned (.string (ofL (K2.sealed s.data.toList))) ∧ Below w.heap.size w w' := by
 go_enter Tryz.func125, Tryz.ntmps125
 go_wp2_with fail
 refine (refSum_any s w (by unfold maxLen; omega)).mono ?_; rintro e w1 ⟨rfl, rfl⟩
 have HS : Hid (_ = _) := sealed_app s
 generalize K2.sum s.data.toList = x at HS ⊢
 have hx : x.toNat < 4294967296 := x.isLt
 go_wp2_with fail
 refine (refFour_any x w1).mono ?_; rintro e w2 ⟨rfl, hb⟩
 have hF4 : (ofL (K2.four x)).size = 4 := by rw [ofL_size]; rfl
 generalize ofL (K2.four x) = F at HS hF4 ⊢
 go_wp2
 go_ret
 rw [HS.out]
 exact ⟨rfl, hb⟩
theorem cloneLite_any (s : ByteArray) (w : World) (hlim : s.size ≤ 140737488351232) :
  Calls Tryz.prog 168 #[.string s] w fun e w' => e = .returned (.string s) ∧ Below w.heap.size w w' := by
 by_cases h0 : s.size = 0
 ·have hs : s = ⟨#[]⟩ := by
   apply ByteArray.ext
   exact Array.eq_empty_of_size_eq_zero h0
  subst hs
  go_enter Tryz.func168, Tryz.ntmps168
  go_wp2
  go_ret
  exact ⟨rfl, Below.refl _ _⟩
 ·obtain ⟨i0, hi, hz0, hz1, hz2⟩ := info_parts Tryz.info5
  have hinfo : (Tryz.prog.info? 5).map (·.size) = some 1 := by rw [hi]; simp [hz1]
  have hco : Tryz.prog.cellsOf 5 = 1 := by simp [Program.cellsOf, hi, hz1]
  obtain ⟨M, hM⟩ : ∃ M, M = madeCells (Value.int .u8 0).cells (((s.size : Nat) : Int).toNat * i0.size) := ⟨_, rfl⟩
  have hMs : M.size = s.size := by rw [hM, size_madeCells, hz1]; simp
  have hmk : ∀ W : World, (Instr.makeSlice 138 (.int .i64 (s.size : Int)) (.int .i64 (s.size : Int))).run Tryz.prog W = .ok (.slice (some ⟨W.heap.size, 0, none⟩) s.size s.size) (W.alloc (.cells M 5)) := fun W => by
   have h := run_make (P := Tryz.prog) W 138 5 i0 (.int .u8 0) Tryz.underlying138 hi hz0 .i64 .i64 (s.size : Int) (s.size : Int) (by omega) (by omega) (by rw [hz2]; omega) (by omega)
   rw [← hM] at h
   simpa using h
  clear hM
  have hcp := Lib.run_copy_row_string (P := Tryz.prog) (w.alloc (.cells M 5)) 138 9 3 5 w.heap.size 0 s.size s.size s M 5 Tryz.underlying138 hinfo (heap_alloc_new w _) Lr (by omega)
  obtain ⟨Y, hY⟩ : ∃ Y, Y = (M.toList.take 0 ++ Lib.byteCells s.data.toList ++ M.toList.drop (0 + s.size)).toArray := ⟨_, rfl⟩
  rw [← hY] at hcp
  have hYl : Y.toList = Lib.byteCells s.data.toList := by
   rw [hY, List.toList_toArray, List.take_zero, List.nil_append, List.drop_of_length_le (by rw [Array.length_toList]; omega), List.append_nil]
  have hYs : Y.size = s.size := by rw [← Array.length_toList, hYl, Lib.byteCells_length, ← Lib.size_eq]
  have hgY : ((w.alloc (.cells M 5)).setRow w.heap.size Y).heap[w.heap.size]? = some (.cells Y 5 (0, 0)) := setRow_heap _ _ M _ 5 (0, 0) (heap_alloc_new w _)
  have hne : s.data.toList ≠ [] := fun e => h0 (by rw [Lib.size_eq, e]; rfl)
  have hUS := Lib.run_unsafeString_row (P := Tryz.prog) ((w.alloc (.cells M 5)).setRow w.heap.size Y) 206 3 9 5 Tryz.underlying206 hco w.heap.size Y.size (by unfold World.shape?; rw [hgY]) s.data.toList hne (by rw [← Lib.size_eq]; omega) (by rw [← Lib.size_eq]; omega)
   (fun j x hx => Lib.cells_of_row hgY Y.size j _ (by rw [List.take_of_length_le (by rw [Array.length_toList]; exact Nat.le_refl _), hYl]; simp [Lib.byteCells, hx]))
  rw [← Lib.size_eq] at hUS; clear hY
  go_enter Tryz.func168, Tryz.ntmps168
  go_wp2
  go_ret
  have hb1 : Below w.heap.size w (w.alloc (.cells M 5)) := (Below.refl _ w).alloc Lr _
  have hb2 : Below w.heap.size (w.alloc (.cells M 5)) ((w.alloc (.cells M 5)).setRow w.heap.size Y) := ⟨rfl, rfl, rfl, by simp, fun k hk => setRow_other _ _ _ _ (by omega)⟩
  exact ⟨rfl, Lib.below_freeze (hb1.trans hb2) (p := ⟨w.heap.size, 0, none⟩) Lr _⟩
theorem clone_any (s : ByteArray) (w : World) (hs : s.size ≤ 140737488351232) :
  Calls Tryz.prog 134 #[.string s] w fun e w' => e = .returned (.string s) ∧ Below w.heap.size w w' := by
 go_enter Tryz.func134, Tryz.ntmps134
 go_wp2_with fail
 refine (cloneLite_any s w hs).mono ?_; rintro e w1 ⟨rfl, hb⟩
 go_wp2
 go_ret
 exact ⟨rfl, hb⟩
def openOut (s : ByteArray) : ByteArray × Int :=
 if s.size < 4 then (ByteArray.empty, 2) else if K2.sealed (s.data.toList.take (s.size - 4)) = s.data.toList then (ofL (s.data.toList.take (s.size - 4)), 0) else (ByteArray.empty, 4)
theorem text_ne {a b : ByteArray} (h : a ≠ b) : (a.toList == b.toList) = false := by
 rw [beq_eq_false_iff_ne]
 intro h1; rw [ByteArray.toList_eq, ByteArray.toList_eq] at h1
 exact h (ByteArray.ext (Array.toList_inj.1 h1))
theorem cut_list (s : ByteArray) (z : Nat) : (s.extract 0 z).data.toList = s.data.toList.take z := by simp
theorem open_any (s : ByteArray) (w : World) (hs : s.size ≤ 140737488351232) :
  Calls Tryz.prog 135 #[.string s] w fun e w' => e = .returned (.tuple #[.string (openOut s).1, .int .i64 (openOut s).2]) ∧ Below w.heap.size w w' := by
 by_cases h4 : s.size < 4
 ·have e : openOut s = (ByteArray.empty, 2) := by simp [openOut, h4]
  rw [e]
  go_enter Tryz.func135, Tryz.ntmps135
  go_wp2
  go_ret2
  exact ⟨rfl, Below.refl _ _⟩
 ·obtain ⟨z, hz⟩ : ∃ z, s.size = z + 4 := ⟨s.size - 4, by omega⟩
  have hzi : (s.size : Int) - 4 = (z : Int) := by omega
  have hzn : s.size - 4 = z := by omega
  have HT : Hid (_ = _) := cut_list s z
  have hts : (s.extract 0 z).size = z := by rw [ByteArray.size_extract]; omega
  have HTs : Hid ((s.extract 0 z).size = z) := hts
  by_cases hq : K2.sealed (s.data.toList.take z) = s.data.toList
  ·have e : openOut s = (s.extract 0 z, 0) := by
    unfold openOut; rw [if_neg h4, hzn, if_pos hq, ← cut_list s z, ofL_of]
   rw [e]
   have HX : Hid (ofL (K2.sealed (s.extract 0 z).data.toList) = s) := by
    have h1 : ofL (K2.sealed (s.extract 0 z).data.toList) = s := by rw [HT.out, hq, ofL_of]
    exact h1
   clear e hq HT
   go_enter Tryz.func135, Tryz.ntmps135
   go_wp2_with fail
   refine (seal_any (s.extract 0 z) w (by rw [HTs.out]; omega)).mono ?_; rintro e w1 ⟨rfl, hb1⟩
   rw [HX.out]
   go_wp2_with fail
   refine (clone_any (s.extract 0 z) w1 (by rw [HTs.out]; omega)).mono ?_; rintro e w2 ⟨rfl, hb2⟩
   go_wp2
   go_ret2
   exact ⟨rfl, hb1.trans (hb2.mono hb1.size)⟩
  ·have e : openOut s = (ByteArray.empty, 4) := by
    unfold openOut; rw [if_neg h4, hzn, if_neg hq]
   rw [e]
   have HX : Hid (ofL (K2.sealed (s.extract 0 z).data.toList) ≠ s) := by
    have h1 : ofL (K2.sealed (s.extract 0 z).data.toList) ≠ s := by
     intro h2
     apply hq
     have h3 := congrArg (fun t : ByteArray => t.data.toList) h2
     simp only [ofL_data, HT.out] at h3
     exact h3
    exact h1
   clear e hq HT
   go_enter Tryz.func135, Tryz.ntmps135
   go_wp2_with fail
   refine (seal_any (s.extract 0 z) w (by rw [HTs.out]; omega)).mono ?_; rintro e w1 ⟨rfl, hb1⟩
   generalize ofL (K2.sealed (s.extract 0 z).data.toList) = X at HX ⊢
   have hX : (X.toList == s.toList) = false := text_ne HX.out
   go_wp2
   go_ret2
   exact ⟨rfl, hb1⟩
theorem refOpen_any (s : ByteArray) (w : World) (hs : s.size ≤ 140737488351232) :
  Calls Tryz.prog 94 #[.string s] w fun e w' => e = .returned (.tuple #[.string (openOut s).1, .int .i64 (openOut s).2]) ∧ Below w.heap.size w w' := by
 by_cases h4 : s.size < 4
 ·have e : openOut s = (ByteArray.empty, 2) := by simp [openOut, h4]
  rw [e]
  go_enter Tryz.func94, Tryz.ntmps94
  go_wp2
  go_ret2
  exact ⟨rfl, Below.refl _ _⟩
 ·obtain ⟨z, hz⟩ : ∃ z, s.size = z + 4 := ⟨s.size - 4, by omega⟩
  have hzi : (s.size : Int) - 4 = (z : Int) := by omega
  have hzn : s.size - 4 = z := by omega
  have HT : Hid (_ = _) := cut_list s z
  have hts : (s.extract 0 z).size = z := by rw [ByteArray.size_extract]; omega
  have HTs : Hid ((s.extract 0 z).size = z) := hts
  by_cases hq : K2.sealed (s.data.toList.take z) = s.data.toList
  ·have e : openOut s = (s.extract 0 z, 0) := by
    unfold openOut; rw [if_neg h4, hzn, if_pos hq, ← cut_list s z, ofL_of]
   rw [e]
   have HX : Hid (ofL (K2.sealed (s.extract 0 z).data.toList) = s) := by
    have h1 : ofL (K2.sealed (s.extract 0 z).data.toList) = s := by rw [HT.out, hq, ofL_of]
    exact h1
   clear e hq HT
   go_enter Tryz.func94, Tryz.ntmps94
   go_wp2_with fail
   refine (refSeal_any (s.extract 0 z) w (by rw [HTs.out]; omega)).mono ?_; rintro e w1 ⟨rfl, hb1⟩
   rw [HX.out]; go_wp2
   go_ret2
   exact ⟨rfl, hb1⟩
  ·have e : openOut s = (ByteArray.empty, 4) := by
    unfold openOut; rw [if_neg h4, hzn, if_neg hq]
   rw [e]
   have HX : Hid (ofL (K2.sealed (s.extract 0 z).data.toList) ≠ s) := by
    have h1 : ofL (K2.sealed (s.extract 0 z).data.toList) ≠ s := by
     intro h2
     apply hq
     have h3 := congrArg (fun t : ByteArray => t.data.toList) h2
     simp only [ofL_data, HT.out] at h3
     exact h3
    exact h1
   clear e hq HT
   go_enter Tryz.func94, Tryz.ntmps94
   go_wp2_with fail
   refine (refSeal_any (s.extract 0 z) w (by rw [HTs.out]; omega)).mono ?_; rintro e w1 ⟨rfl, hb1⟩
   generalize ofL (K2.sealed (s.extract 0 z).data.toList) = X at HX ⊢
   have hX : (X.toList == s.toList) = false := text_ne HX.out
   go_wp2
   go_ret2
   exact ⟨rfl, hb1⟩
end Go.Proofs.YtlnedgjikkhplaaGreat.Ns
namespace Go.Proofs.YtlnedgjikkhplaaGreat.Ns
open Go.RowKit
open M (ofL ofL_size ofL_of)
namespace Sp
def nm (l : List UInt8) (k : Nat) : Nat := (l.getD k 0).toNat + 256 * (l.getD (k + 1) 0).toNat + 65536 * (l.getD (k + 2) 0).toNat + 16777216 * (l.getD (k + 3) 0).toNat
theorem nm_lt (l : List UInt8) (k : Nat) : nm l k < 4294967296 := by
 unfold nm
 have h0 := (l.getD k 0).toNat_lt
 have h1 := (l.getD (k + 1) 0).toNat_lt
 have h2 := (l.getD (k + 2) 0).toNat_lt
 have h3 := (l.getD (k + 3) 0).toNat_lt
 omega
theorem byte_nat (x : BitVec 32) (k : Nat) : (K2.byte x k).toNat = x.toNat / 2 ^ k % 256 := by
 have := byte_bits x k
 have e : ((x.toNat / 2 ^ k % 256 : Nat) : Int) = (x.toNat : Int) / ((2 ^ k : Nat) : Int) % 256 := by
  rw [Int.natCast_emod, Int.natCast_ediv]; rfl
 rw [← e] at this
 exact Int.ofNat.inj this
theorem nm_four (x : BitVec 32) (r : List UInt8) : nm (K2.four x ++ r) 0 = x.toNat := by
 have hx : x.toNat < 4294967296 := x.isLt
 have b0 := byte_nat x 0
 have b1 := byte_nat x 8
 have b2 := byte_nat x 16
 have b3 := byte_nat x 24
 simp only [Nat.pow_zero, Nat.reducePow] at b0 b1 b2 b3
 show (K2.byte x 0).toNat + 256 * (K2.byte x 8).toNat + 65536 * (K2.byte x 16).toNat + 16777216 * (K2.byte x 24).toNat = x.toNat
 rw [b0, b1, b2, b3]
 omega
theorem nm_four4 (x y : BitVec 32) (r : List UInt8) : nm (K2.four x ++ (K2.four y ++ r)) 4 = y.toNat := by
 rw [← nm_four y r]
 rfl
theorem nm_take (l : List UInt8) (n k : Nat) (h : k + 4 ≤ n) : nm (l.take n) k = nm l k := by
 unfold nm
 simp only [List.getD_eq_getElem?_getD, List.getElem?_take]
 rw [if_pos (by omega), if_pos (by omega), if_pos (by omega), if_pos (by omega)]
theorem nm_drop (l : List UInt8) (n k : Nat) : nm (l.drop n) k = nm l (n + k) := by
 unfold nm
 simp only [List.getD_eq_getElem?_getD, List.getElem?_drop]
 rfl
def heads (b : List UInt8) (g : Nat) : List UInt8 := K2.four (BitVec.ofNat 32 g) ++ K2.four (BitVec.ofNat 32 b.length) ++ b
def pk (b : List UInt8) (g : Nat) : List UInt8 := K2.sealed (pad (heads b g) 252)
theorem heads_len (b : List UInt8) (g : Nat) : (heads b g).length = 8 + b.length := by
 simp only [heads, List.length_append, K2.four, List.length_cons, List.length_nil]
theorem pad_len (l : List UInt8) (n : Nat) (h : l.length ≤ n) : (pad l n).length = n := by
 simp only [pad, List.length_append, List.length_replicate]
 omega
theorem body_len (b : List UInt8) (g : Nat) (h : b.length ≤ 244) : (pad (heads b g) 252).length = 252 := pad_len _ _ (by rw [heads_len]; omega)
theorem pk_len (b : List UInt8) (g : Nat) (h : b.length ≤ 244) : (pk b g).length = 256 := by
 unfold pk K2.sealed; rw [List.length_append, body_len b g h]
 rfl
theorem pk_take (b : List UInt8) (g : Nat) (h : b.length ≤ 244) : (pk b g).take 252 = pad (heads b g) 252 := by
 unfold pk K2.sealed
 exact List.take_left' (body_len b g h)
theorem pk_form (b : List UInt8) (g : Nat) : ∃ r, pk b g = K2.four (BitVec.ofNat 32 g) ++ (K2.four (BitVec.ofNat 32 b.length) ++ (b ++ r)) := by
 refine ⟨List.replicate (252 - (heads b g).length) 0 ++ K2.four (K2.sum (pad (heads b g) 252)), ?_⟩
 simp only [pk, K2.sealed, pad, heads, List.append_assoc]
theorem pk_gen (b : List UInt8) (g : Nat) (hg : g < 4294967296) : nm (pk b g) 0 = g := by
 obtain ⟨r, e⟩ := pk_form b g
 rw [e, nm_four, BitVec.toNat_ofNat, Nat.mod_eq_of_lt hg]
theorem pk_length (b : List UInt8) (g : Nat) (hb : b.length ≤ 244) : nm (pk b g) 4 = b.length := by
 obtain ⟨r, e⟩ := pk_form b g
 rw [e, nm_four4, BitVec.toNat_ofNat, Nat.mod_eq_of_lt (by omega)]
theorem pk_body (b : List UInt8) (g : Nat) : ((pk b g).drop 8).take b.length = b := by
 obtain ⟨r, e⟩ := pk_form b g
 rw [e, ← List.append_assoc, List.drop_left' (by rfl), List.take_left' rfl]
def bd (s : List UInt8) : List UInt8 := (s.drop 8).take (nm s 4)
def ok (pl : Nat) (s : List UInt8) : Bool := decide (K2.sealed (s.take 252) = s) && (decide (nm s 4 ≤ 244) && (decide (1 ≤ nm s 0) && decide (nm s 0 < 2147483648) && (decide (pk (bd s) (nm s 0) = s) && decide (nm s 0 % 2 = pl))))
def sa (pl : Nat) (s : List UInt8) : Nat × List UInt8 := bif ok pl s then (nm s 0, bd s) else (0, [])
theorem ok_iff (pl : Nat) (s : List UInt8) : ok pl s = true ↔ K2.sealed (s.take 252) = s ∧ nm s 4 ≤ 244 ∧ 1 ≤ nm s 0 ∧ nm s 0 < 2147483648 ∧ pk (bd s) (nm s 0) = s ∧ nm s 0 % 2 = pl := by
 simp only [ok, Bool.and_eq_true, decide_eq_true_eq, and_assoc]
theorem bd_len (s : List UInt8) : (bd s).length ≤ nm s 4 := by
 unfold bd; rw [List.length_take]
 exact Nat.min_le_left _ _
theorem sa_yes {pl : Nat} {s : List UInt8} (h : ok pl s = true) : sa pl s = (nm s 0, bd s) := by unfold sa; rw [h]; rfl
theorem sa_no {pl : Nat} {s : List UInt8} (h : ok pl s = false) : sa pl s = (0, []) := by unfold sa; rw [h]; rfl
theorem sa_zero (pl : Nat) (s : List UInt8) (h : nm s 0 = 0) : sa pl s = (0, []) := by
 apply sa_no
 cases ho : ok pl s with
 | false => rfl
 | true => have := ((ok_iff pl s).1 ho).2.2.1; omega
theorem sa_par (pl : Nat) (s : List UInt8) : (sa pl s).1 = 0 ∧ (sa pl s).2 = [] ∨ 1 ≤ (sa pl s).1 ∧ (sa pl s).1 % 2 = pl ∧ (sa pl s).1 < 2147483648 ∧ (sa pl s).2.length ≤ 244 ∧ ok pl s = true := by
 cases h : ok pl s with
 | false => left; rw [sa_no h]; exact ⟨rfl, rfl⟩
 | true =>
  right
  rw [sa_yes h]
  obtain ⟨_, h2, h3, h4, _, h6⟩ := (ok_iff pl s).1 h
  exact ⟨h3, h6, h4, Nat.le_trans (bd_len s) h2, rfl⟩
theorem ok_pk (b : List UInt8) (g : Nat) (hb : b.length ≤ 244) (h1 : 1 ≤ g) (h2 : g < 2147483648) : ok (g % 2) (pk b g) = true ∧ sa (g % 2) (pk b g) = (g, b) := by
 have eg := pk_gen b g (by omega)
 have el := pk_length b g hb
 have eb : bd (pk b g) = b := by
  unfold bd; rw [el, pk_body]
 have h : ok (g % 2) (pk b g) = true := by
  rw [ok_iff]
  refine ⟨?_, by omega, by omega, by omega, ?_, by rw [eg]⟩
  ·rw [pk_take b g hb]; rfl
  ·rw [eb, eg]
 refine ⟨h, ?_⟩
 rw [sa_yes h, eg, eb]
def rd (s : List UInt8) : Nat × List UInt8 := bif decide ((sa 0 (s.take 256)).1 < (sa 1 (s.drop 256)).1) then sa 1 (s.drop 256) else sa 0 (s.take 256)
end Sp
end Go.Proofs.YtlnedgjikkhplaaGreat.Ns
namespace Go.Proofs.YtlnedgjikkhplaaGreat.Ns
open Go.RowKit
open M (ofL ofL_size ofL_of)
theorem four_any (x : BitVec 32) (w : World) :
  Calls Tryz.prog 194 #[.int .u32 x.toNat] w fun e w' => e = .returned (.string (ofL (K2.four x))) ∧ Below w.heap.size w w' := by
 have hx : x.toNat < 4294967296 := x.isLt
 have hcv := four_convert w x
 go_enter Tryz.func194, Tryz.ntmps194
 go_wp2
 go_ret
 exact ⟨rfl, (Below.refl _ _).alloc Lr _⟩
theorem getD_of (s : ByteArray) (k : Nat) (h : k < s.size) : s.data.toList.getD k 0 = s[k] := by
 rw [List.getD_eq_getElem?_getD, List.getElem?_eq_getElem (by rw [len_data]; exact h)]
 rfl
theorem or_add (a b i : Nat) (h : a < 2 ^ i) : a ||| b * 2 ^ i = a + b * 2 ^ i := by
 rw [Nat.or_comm, ← Nat.shiftLeft_eq, ← Nat.shiftLeft_add_eq_or_of_lt h]
 omega
theorem or_num (a b c d : Nat) (ha : a < 256) (hb : b < 256) (hc : c < 256) (hd : d < 256) :
  bits .or .u32 (bits .or .u32 (bits .or .u32 (a : Int) ((b : Int) * 256)) ((c : Int) * 65536)) ((d : Int) * 16777216) = ((a + 256 * b + 65536 * c + 16777216 * d : Nat) : Int) := by
 have e1 : ((b : Int) * 256) = ((b * 256 : Nat) : Int) := by omega
 have e2 : ((c : Int) * 65536) = ((c * 65536 : Nat) : Int) := by omega
 have e3 : ((d : Int) * 16777216) = ((d * 16777216 : Nat) : Int) := by omega
 have o1 := or_add a b 8 (by omega)
 have o2 := or_add (a + b * 256) c 16 (by omega)
 have o3 := or_add (a + b * 256 + c * 65536) d 24 (by omega)
 simp only [Nat.reducePow] at o1 o2 o3
 rw [e1, e2, e3, u32_or_nat _ _ (by omega) (by omega), o1, u32_or_nat _ _ (by omega) (by omega), o2, u32_or_nat _ _ (by omega) (by omega), o3]
 omega
theorem nm_of (s : ByteArray) (h4 : 4 ≤ s.size) : Sp.nm s.data.toList 0 = s[0].toNat + 256 * s[1].toNat + 65536 * s[2].toNat + 16777216 * s[3].toNat := by
 unfold Sp.nm; rw [getD_of s 0 (by omega), getD_of s (0 + 1) (by omega), getD_of s (0 + 2) (by omega), getD_of s (0 + 3) (by omega)]
theorem number_any (s : ByteArray) (w : World) (hs : s.size ≤ maxLen) (h4 : 4 ≤ s.size) :
  Calls Tryz.prog 196 #[.string s] w fun e w' => e = .returned (.int .u32 (Sp.nm s.data.toList 0)) ∧ Below w.heap.size w w' := by
 have h0 : s[0].toNat < 256 := s[0].toNat_lt
 have h1 : s[1].toNat < 256 := s[1].toNat_lt
 have h2 : s[2].toNat < 256 := s[2].toNat_lt
 have h3 : s[3].toNat < 256 := s[3].toNat_lt
 have p0 : 0 < s.size := by omega
 have p1 : 1 < s.size := by omega
 have p2 : 2 < s.size := by omega
 have p3 : 3 < s.size := by omega
 have q1 : (1 : Int) < (s.size : Int) := by omega
 have q2 : (2 : Int) < (s.size : Int) := by omega
 have q3 : (3 : Int) < (s.size : Int) := by omega
 go_enter Tryz.func196, Tryz.ntmps196
 go_wp2_with fail
 go_region
 all_goals
  go_wp2
  go_ret
  exact ⟨ret_int (by rw [or_num _ _ _ _ h0 h1 h2 h3, nm_of s h4]), Below.drew (Below.refl _ _)⟩
theorem refNumber_any (s : ByteArray) (w : World) (hs : s.size ≤ maxLen) (h4 : 4 ≤ s.size) :
  Calls Tryz.prog 139 #[.string s] w fun e w' => e = .returned (.int .u32 (Sp.nm s.data.toList 0)) ∧ Below w.heap.size w w' := by
 have h0 : s[0].toNat < 256 := s[0].toNat_lt
 have h1 : s[1].toNat < 256 := s[1].toNat_lt
 have h2 : s[2].toNat < 256 := s[2].toNat_lt
 have h3 : s[3].toNat < 256 := s[3].toNat_lt
 have p0 : 0 < s.size := by omega
 have p1 : 1 < s.size := by omega
 have p2 : 2 < s.size := by omega
 have p3 : 3 < s.size := by omega
 have q1 : (1 : Int) < (s.size : Int) := by omega
 have q2 : (2 : Int) < (s.size : Int) := by omega
 have q3 : (3 : Int) < (s.size : Int) := by omega
 go_enter Tryz.func139, Tryz.ntmps139
 go_wp2_with fail
 go_region
 all_goals
  go_wp2
  go_ret
  exact ⟨ret_int (by rw [or_num _ _ _ _ h0 h1 h2 h3, nm_of s h4]), Below.drew (Below.refl _ _)⟩
theorem rem_two (g : Nat) : ((g : Int) % 2) = ((g % 2 : Nat) : Int) := by omega
theorem placeOf_any (g : Nat) (hg : g < 4294967296) (w : World) : Calls Tryz.prog 123 #[.int .i64 g] w fun e w' => e = .returned (.int .i64 (g % 2 : Nat)) ∧ w' = w := by
 go_enter Tryz.func123, Tryz.ntmps123
 go_wp2
 go_ret
 refine ⟨ret_int ?_, rfl⟩
 omega
theorem refPlace_any (g : Nat) (hg : g < 4294967296) (w : World) : Calls Tryz.prog 128 #[.int .i64 g] w fun e w' => e = .returned (.int .i64 (g % 2 * 4 : Nat)) ∧ w' = w := by
 go_enter Tryz.func128, Tryz.ntmps128
 go_wp2
 go_ret
 refine ⟨ret_int ?_, rfl⟩
 omega
theorem pad_to (s : ByteArray) (n : Nat) (w : World) (h : n ≤ 65536) (hs : s.size ≤ n) :
  Calls Tryz.prog 30 #[.string s, .int .i64 n] w fun e w' => e = .returned (.tuple #[.string (ofL (pad s.data.toList n)), .int .i64 0]) ∧ Below w.heap.size w w' := by
 have hp := padded_any s n w (by omega) hs
 have d1 : decide ((n : Int) < 0) = false := by simp
 have d2 : decide ((65536 : Int) < (n : Int)) = false := by simp; omega
 have d3 : decide ((n : Int) < (s.size : Int)) = false := by simp; omega
 go_enter Tryz.func30, Tryz.ntmps30
 go_wp2_with fail
 refine hp.mono ?_; rintro e w1 ⟨rfl, hb⟩
 clear hp; go_wp2
 go_ret2
 exact ⟨rfl, hb⟩
end Go.Proofs.YtlnedgjikkhplaaGreat.Ns
