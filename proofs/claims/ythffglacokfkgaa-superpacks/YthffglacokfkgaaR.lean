/-
  Numbers in four bytes, there and back; bytes 0 behind a text.
-/
import Derived.Test.YthffglacokfkgaaQ
namespace Go.Proofs.Ythffglacokfkgaa
open Go.RowKit
open M (ofL ofL_size ofL_of)
set_option linter.unusedVariables false

set_option maxHeartbeats 400000 in
theorem four_any (x : BitVec 32) (w : World) :
    Calls Try.prog 40 #[.int .u32 x.toNat] w fun e w' => e = .returned (.string (ofL (K2.four x))) ∧ Below w.heap.size w w' := by
  have hx : x.toNat < 4294967296 := x.isLt
  have hcv := four_convert w x
  go_enter Try.func40, Try.ntmps40
  go_wp2
  go_ret
  exact ⟨rfl, (Below.refl _ _).alloc (Nat.le_refl _) _⟩
theorem getD_of (s : ByteArray) (k : Nat) (h : k < s.size) : s.data.toList.getD k 0 = s[k] := by
  rw [List.getD_eq_getElem?_getD, List.getElem?_eq_getElem (by rw [len_data]; exact h)]
  rfl
theorem or_add (a b i : Nat) (h : a < 2 ^ i) : a ||| b * 2 ^ i = a + b * 2 ^ i := by
  rw [Nat.or_comm, ← Nat.shiftLeft_eq, ← Nat.shiftLeft_add_eq_or_of_lt h]
  omega
theorem or_num (a b c d : Nat) (ha : a < 256) (hb : b < 256) (hc : c < 256) (hd : d < 256) :
    bits .or .u32 (bits .or .u32 (bits .or .u32 (a : Int) ((b : Int) * 256)) ((c : Int) * 65536)) ((d : Int) * 16777216) = ((a + 256 * b + 65536 * c + 16777216 * d : Nat) : Int) := by
  have e1 : ((b : Int) * 256) = ((b * 256 : Nat) : Int) := by omega
  have e2 : ((c : Int) * 65536) = ((c * 65536 : Nat) : Int) := by omega
  have e3 : ((d : Int) * 16777216) = ((d * 16777216 : Nat) : Int) := by omega
  have o1 := or_add a b 8 (by omega)
  have o2 := or_add (a + b * 256) c 16 (by omega)
  have o3 := or_add (a + b * 256 + c * 65536) d 24 (by omega)
  simp only [Nat.reducePow] at o1 o2 o3
  rw [e1, e2, e3, u32_or_nat _ _ (by omega) (by omega), o1, u32_or_nat _ _ (by omega) (by omega), o2, u32_or_nat _ _ (by omega) (by omega), o3]
  omega
theorem nm_of (s : ByteArray) (h4 : 4 ≤ s.size) : Sp.nm s.data.toList 0 = s[0].toNat + 256 * s[1].toNat + 65536 * s[2].toNat + 16777216 * s[3].toNat := by
  unfold Sp.nm
  rw [getD_of s 0 (by omega), getD_of s (0 + 1) (by omega), getD_of s (0 + 2) (by omega), getD_of s (0 + 3) (by omega)]
set_option maxHeartbeats 400000 in
theorem number_any (s : ByteArray) (w : World) (hs : s.size ≤ maxLen) (h4 : 4 ≤ s.size) :
    Calls Try.prog 60 #[.string s] w fun e w' => e = .returned (.int .u32 (Sp.nm s.data.toList 0)) ∧ Below w.heap.size w w' := by
  have h0 : s[0].toNat < 256 := s[0].toNat_lt
  have h1 : s[1].toNat < 256 := s[1].toNat_lt
  have h2 : s[2].toNat < 256 := s[2].toNat_lt
  have h3 : s[3].toNat < 256 := s[3].toNat_lt
  have p0 : 0 < s.size := by omega
  have p1 : 1 < s.size := by omega
  have p2 : 2 < s.size := by omega
  have p3 : 3 < s.size := by omega
  have q1 : (1 : Int) < (s.size : Int) := by omega
  have q2 : (2 : Int) < (s.size : Int) := by omega
  have q3 : (3 : Int) < (s.size : Int) := by omega
  go_enter Try.func60, Try.ntmps60
  go_wp2_with fail
  go_region
  all_goals
    go_wp2
    go_ret
    exact ⟨ret_int (by rw [or_num _ _ _ _ h0 h1 h2 h3, nm_of s h4]), Below.drew (Below.refl _ _)⟩
set_option maxHeartbeats 400000 in
theorem refNumber_any (s : ByteArray) (w : World) (hs : s.size ≤ maxLen) (h4 : 4 ≤ s.size) :
    Calls Try.prog 37 #[.string s] w fun e w' => e = .returned (.int .u32 (Sp.nm s.data.toList 0)) ∧ Below w.heap.size w w' := by
  have h0 : s[0].toNat < 256 := s[0].toNat_lt
  have h1 : s[1].toNat < 256 := s[1].toNat_lt
  have h2 : s[2].toNat < 256 := s[2].toNat_lt
  have h3 : s[3].toNat < 256 := s[3].toNat_lt
  have p0 : 0 < s.size := by omega
  have p1 : 1 < s.size := by omega
  have p2 : 2 < s.size := by omega
  have p3 : 3 < s.size := by omega
  have q1 : (1 : Int) < (s.size : Int) := by omega
  have q2 : (2 : Int) < (s.size : Int) := by omega
  have q3 : (3 : Int) < (s.size : Int) := by omega
  go_enter Try.func37, Try.ntmps37
  go_wp2_with fail
  go_region
  all_goals
    go_wp2
    go_ret
    exact ⟨ret_int (by rw [or_num _ _ _ _ h0 h1 h2 h3, nm_of s h4]), Below.drew (Below.refl _ _)⟩

set_option maxHeartbeats 400000 in
theorem room_any (w : World) : Calls Try.prog 8 #[] w fun e w' => e = .returned (.int .i64 244) ∧ w' = w := by
  go_enter Try.func8, Try.ntmps8
  go_wp2
  go_ret
  exact ⟨rfl, rfl⟩
theorem rem_two (g : Nat) : ((g : Int) % 2) = ((g % 2 : Nat) : Int) := by omega
set_option maxHeartbeats 400000 in
theorem placeOf_any (g : Nat) (hg : g < 4294967296) (w : World) : Calls Try.prog 24 #[.int .i64 g] w fun e w' => e = .returned (.int .i64 (g % 2 : Nat)) ∧ w' = w := by
  go_enter Try.func24, Try.ntmps24
  go_wp2
  go_ret
  refine ⟨ret_int ?_, rfl⟩
  omega
set_option maxHeartbeats 400000 in
theorem refPlace_any (g : Nat) (hg : g < 4294967296) (w : World) : Calls Try.prog 38 #[.int .i64 g] w fun e w' => e = .returned (.int .i64 (g % 2 * 4 : Nat)) ∧ w' = w := by
  go_enter Try.func38, Try.ntmps38
  go_wp2
  go_ret
  refine ⟨ret_int ?_, rfl⟩
  omega
set_option maxHeartbeats 400000 in
theorem pad_to (s : ByteArray) (n : Nat) (w : World) (h : n ≤ 65536) (hs : s.size ≤ n) :
    Calls Try.prog 17 #[.string s, .int .i64 n] w fun e w' => e = .returned (.tuple #[.string (ofL (pad s.data.toList n)), .int .i64 0]) ∧ Below w.heap.size w w' := by
  have hp := padded_any s n w (by omega) hs
  have d1 : decide ((n : Int) < 0) = false := by simp
  have d2 : decide ((65536 : Int) < (n : Int)) = false := by simp; omega
  have d3 : decide ((n : Int) < (s.size : Int)) = false := by simp; omega
  go_enter Try.func17, Try.ntmps17
  go_wp2_with fail
  refine hp.mono ?_
  rintro e w1 ⟨rfl, hb⟩
  clear hp
  go_wp2
  go_ret2
  exact ⟨rfl, hb⟩
end Go.Proofs.Ythffglacokfkgaa
