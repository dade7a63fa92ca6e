/-
  Numbers in four bytes, a head's bytes, where slots stand, whether a place may be.
-/
import Derived.Test.YticjilpomdahbaaSD
import Derived.Test.YticjilpomdahbaaFM
import Derived.Deep.RegionHeld3
import Derived.Deep.CutRange
namespace Go.Proofs.Yticjilpomdahbaa
open Go.RowKit
open M (ofL ofL_size ofL_of)
set_option linter.unusedVariables false

theorem pd_eq : Fr.pd = pad := rfl
set_option maxHeartbeats 400000 in
theorem four_any (x : BitVec 32) (w : World) :
    Calls Try.prog 44 #[.int .u32 x.toNat] w fun e w' => e = .returned (.string (ofL (K2.four x))) ∧ Below w.heap.size w w' := by
  have hx : x.toNat < 4294967296 := x.isLt
  have hcv := four_convert w x
  go_enter Try.func44, Try.ntmps44
  go_wp2
  go_ret
  exact ⟨rfl, (Below.refl _ _).alloc (Nat.le_refl _) _⟩
theorem four_nat (n : Nat) (h : n < 4294967296) (w : World) :
    Calls Try.prog 44 #[.int .u32 n] w fun e w' => e = .returned (.string (ofL (K2.four (BitVec.ofNat 32 n)))) ∧ Below w.heap.size w w' := by
  have e : (BitVec.ofNat 32 n).toNat = n := by rw [BitVec.toNat_ofNat]; omega
  have := four_any (BitVec.ofNat 32 n) w
  rw [e] at this
  exact this
theorem four_size (x : BitVec 32) : (ofL (K2.four x)).size = 4 := by rw [ofL_size]; rfl
theorem getD_of (s : ByteArray) (k : Nat) (h : k < s.size) : s.data.toList.getD k 0 = s[k] := by
  rw [List.getD_eq_getElem?_getD, List.getElem?_eq_getElem (by rw [len_data]; exact h)]
  rfl
theorem or_add (a b i : Nat) (h : a < 2 ^ i) : a ||| b * 2 ^ i = a + b * 2 ^ i := by
  rw [Nat.or_comm, ← Nat.shiftLeft_eq, ← Nat.shiftLeft_add_eq_or_of_lt h]
  omega
theorem or_num (a b c d : Nat) (ha : a < 256) (hb : b < 256) (hc : c < 256) (hd : d < 256) :
    bits .or .u32 (bits .or .u32 (bits .or .u32 (a : Int) ((b : Int) * 256)) ((c : Int) * 65536)) ((d : Int) * 16777216) = ((a + 256 * b + 65536 * c + 16777216 * d : Nat) : Int) := by
  have e1 : ((b : Int) * 256) = ((b * 256 : Nat) : Int) := by omega
  have e2 : ((c : Int) * 65536) = ((c * 65536 : Nat) : Int) := by omega
  have e3 : ((d : Int) * 16777216) = ((d * 16777216 : Nat) : Int) := by omega
  have o1 := or_add a b 8 (by omega)
  have o2 := or_add (a + b * 256) c 16 (by omega)
  have o3 := or_add (a + b * 256 + c * 65536) d 24 (by omega)
  simp only [Nat.reducePow] at o1 o2 o3
  rw [e1, e2, e3, u32_or_nat _ _ (by omega) (by omega), o1, u32_or_nat _ _ (by omega) (by omega), o2, u32_or_nat _ _ (by omega) (by omega), o3]
  omega
theorem nm_of (s : ByteArray) (k : Nat) (h4 : k + 4 ≤ s.size) : Fr.nm s.data.toList k = s[k].toNat + 256 * s[k + 1].toNat + 65536 * s[k + 2].toNat + 16777216 * s[k + 3].toNat := by
  unfold Fr.nm
  rw [getD_of s k (by omega), getD_of s (k + 1) (by omega), getD_of s (k + 2) (by omega), getD_of s (k + 3) (by omega)]
set_option maxHeartbeats 400000 in
theorem number_4 (s : ByteArray) (w : World) (h4 : 16 ≤ s.size) :
    Calls Try.prog 37 #[.string s, .int .i64 4] w fun e w' => e = .returned (.int .u32 (Fr.nm s.data.toList 4)) ∧ Below w.heap.size w w' := by
  have e := nm_of s 4 (by omega)
  have p0 : 4 < s.size := by omega
  have p1 : 5 < s.size := by omega
  have p2 : 6 < s.size := by omega
  have p3 : 7 < s.size := by omega
  have q0 : (4 : Int) < (s.size : Int) := by omega
  have q1 : (5 : Int) < (s.size : Int) := by omega
  have q2 : (6 : Int) < (s.size : Int) := by omega
  have q3 : (7 : Int) < (s.size : Int) := by omega
  have h0 : s[4].toNat < 256 := s[4].toNat_lt
  have h1 : s[5].toNat < 256 := s[5].toNat_lt
  have h2 : s[6].toNat < 256 := s[6].toNat_lt
  have h3 : s[7].toNat < 256 := s[7].toNat_lt
  have HE : Hid (_ = _) := e
  clear e
  go_enter Try.func37, Try.ntmps37
  go_wp2_with fail
  go_region
  all_goals
    go_wp2
    go_ret
    exact ⟨ret_int (by rw [or_num _ _ _ _ h0 h1 h2 h3, HE.out]), Below.drew (Below.refl _ _)⟩
set_option maxHeartbeats 400000 in
theorem number_8 (s : ByteArray) (w : World) (h4 : 16 ≤ s.size) :
    Calls Try.prog 37 #[.string s, .int .i64 8] w fun e w' => e = .returned (.int .u32 (Fr.nm s.data.toList 8)) ∧ Below w.heap.size w w' := by
  have e := nm_of s 8 (by omega)
  have p0 : 8 < s.size := by omega
  have p1 : 9 < s.size := by omega
  have p2 : 10 < s.size := by omega
  have p3 : 11 < s.size := by omega
  have q0 : (8 : Int) < (s.size : Int) := by omega
  have q1 : (9 : Int) < (s.size : Int) := by omega
  have q2 : (10 : Int) < (s.size : Int) := by omega
  have q3 : (11 : Int) < (s.size : Int) := by omega
  have h0 : s[8].toNat < 256 := s[8].toNat_lt
  have h1 : s[9].toNat < 256 := s[9].toNat_lt
  have h2 : s[10].toNat < 256 := s[10].toNat_lt
  have h3 : s[11].toNat < 256 := s[11].toNat_lt
  have HE : Hid (_ = _) := e
  clear e
  go_enter Try.func37, Try.ntmps37
  go_wp2_with fail
  go_region
  all_goals
    go_wp2
    go_ret
    exact ⟨ret_int (by rw [or_num _ _ _ _ h0 h1 h2 h3, HE.out]), Below.drew (Below.refl _ _)⟩
set_option maxHeartbeats 400000 in
theorem number_12 (s : ByteArray) (w : World) (h4 : 16 ≤ s.size) :
    Calls Try.prog 37 #[.string s, .int .i64 12] w fun e w' => e = .returned (.int .u32 (Fr.nm s.data.toList 12)) ∧ Below w.heap.size w w' := by
  have e := nm_of s 12 (by omega)
  have p0 : 12 < s.size := by omega
  have p1 : 13 < s.size := by omega
  have p2 : 14 < s.size := by omega
  have p3 : 15 < s.size := by omega
  have q0 : (12 : Int) < (s.size : Int) := by omega
  have q1 : (13 : Int) < (s.size : Int) := by omega
  have q2 : (14 : Int) < (s.size : Int) := by omega
  have q3 : (15 : Int) < (s.size : Int) := by omega
  have h0 : s[12].toNat < 256 := s[12].toNat_lt
  have h1 : s[13].toNat < 256 := s[13].toNat_lt
  have h2 : s[14].toNat < 256 := s[14].toNat_lt
  have h3 : s[15].toNat < 256 := s[15].toNat_lt
  have HE : Hid (_ = _) := e
  clear e
  go_enter Try.func37, Try.ntmps37
  go_wp2_with fail
  go_region
  all_goals
    go_wp2
    go_ret
    exact ⟨ret_int (by rw [or_num _ _ _ _ h0 h1 h2 h3, HE.out]), Below.drew (Below.refl _ _)⟩
set_option maxHeartbeats 400000 in
theorem headAt_any (i : Nat) (h : i ≤ 4096) (w : World) : Calls Try.prog 16 #[.int .i64 i] w fun e w' => e = .returned (.int .i64 (9 * i : Nat)) ∧ w' = w := by
  have hw : IntKind.i64.wrap ((i : Int) * 9) = (i : Int) * 9 := by rw [IntKind.wrap_i64]; omega
  go_enter Try.func16, Try.ntmps16
  go_wp2
  go_ret
  exact ⟨ret_int (by omega), rfl⟩
set_option maxHeartbeats 400000 in
theorem bodyAt_any (i : Nat) (h : i ≤ 4096) (w : World) : Calls Try.prog 13 #[.int .i64 i] w fun e w' => e = .returned (.int .i64 (9 * i + 1 : Nat)) ∧ w' = w := by
  have hh := headAt_any i h w
  have e9 : Hid ((9 * i : Nat) + 1 = 9 * i + 1) := rfl
  obtain ⟨z, hz⟩ : ∃ z : Nat, 9 * i = z := ⟨_, rfl⟩
  rw [hz] at hh ⊢
  have hz' : z ≤ 40000 := by omega
  clear hz e9
  go_enter Try.func13, Try.ntmps13
  go_wp2_with fail
  refine hh.mono ?_
  rintro e w1 ⟨rfl, rfl⟩
  clear hh
  go_wp2
  go_ret
  exact ⟨ret_int (by omega), rfl⟩
set_option maxHeartbeats 400000 in
theorem mayBe_any (p q : Int) (w : World) : Calls Try.prog 38 #[.agg #[.int .i64 p, .int .i64 q]] w fun e w' => e = .returned (.bool (Fr.mayBe p q)) ∧ Below w.heap.size w w' := by
  unfold Fr.mayBe
  cases h1 : decide (0 ≤ p) with
  | false =>
    go_enter Try.func38, Try.ntmps38
    go_wp2
    go_ret
    exact ⟨rfl, bel1 w _⟩
  | true =>
    cases h2 : decide (p ≤ 2147483647) with
    | false =>
      go_enter Try.func38, Try.ntmps38
      go_wp2
      go_ret
      exact ⟨rfl, bel1 w _⟩
    | true =>
      cases h3 : decide (0 ≤ q) with
      | false =>
        go_enter Try.func38, Try.ntmps38
        go_wp2
        go_ret
        exact ⟨rfl, bel1 w _⟩
      | true =>
        cases h4 : decide (q < 8) with
        | false =>
          go_enter Try.func38, Try.ntmps38
          go_wp2
          go_ret
          exact ⟨rfl, bel1 w _⟩
        | true =>
          go_enter Try.func38, Try.ntmps38
          go_wp2
          go_ret
          exact ⟨rfl, bel1 w _⟩
set_option maxHeartbeats 400000 in
theorem pad_to (s : ByteArray) (n : Nat) (w : World) (h : n ≤ 65536) (hs : s.size ≤ n) :
    Calls Try.prog 19 #[.string s, .int .i64 n] w fun e w' => e = .returned (.tuple #[.string (ofL (pad s.data.toList n)), .int .i64 0]) ∧ Below w.heap.size w w' := by
  have hp := padded_any s n w (by omega) hs
  have d1 : decide ((n : Int) < 0) = false := by simp
  have d2 : decide ((65536 : Int) < (n : Int)) = false := by simp; omega
  have d3 : decide ((n : Int) < (s.size : Int)) = false := by simp; omega
  go_enter Try.func19, Try.ntmps19
  go_wp2_with fail
  refine hp.mono ?_
  rintro e w1 ⟨rfl, hb⟩
  clear hp
  go_wp2
  go_ret2
  exact ⟨rfl, hb⟩
end Go.Proofs.Yticjilpomdahbaa
