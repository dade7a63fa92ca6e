/-
  The calls that multiply sums and join them return what the plain functions of the text M say, for every input.
-/
import Derived.Test.YtimnhccfmehdoaaA
namespace Go.Proofs.Ytimnhccfmehdoaa
open Go.RowKit
set_option linter.unusedVariables false

theorem top_bits (b : BitVec 32) (v : Bool) (h : b.getLsbD 31 = v) : bits .and .u32 (b.toNat : Int) 2147483648 = if v then 2147483648 else 0 := by
  have e : b &&& 2147483648#32 = if b.getLsbD 31 then 2147483648#32 else 0#32 := by
    have := BitVec.and_twoPow (x := b) (i := 31)
    exact this
  have h1 := and_bits b 2147483648#32
  rw [e, h] at h1
  refine h1.trans ?_
  cases v <;> rfl
theorem ne_zero_bits (b : BitVec 32) (h : b ≠ 0#32) : ((b.toNat : Int) != 0) = true := by
  have : b.toNat ≠ 0 := fun e => h (BitVec.eq_of_toNat_eq (by simpa using e))
  simp only [bne_iff_ne, ne_eq]
  omega
theorem shl_bits (b : BitVec 32) : ((b.toNat : Int) * (2 : Int) % (4294967296 : Int)) = ((b <<< 1).toNat : Int) := by
  rw [BitVec.toNat_shiftLeft, Nat.shiftLeft_eq]
  omega
theorem back (b : BitVec 32) : BitVec.ofInt 32 (b.toNat : Int) = b := by simp

set_option maxHeartbeats 400000 in
theorem times_any (a b : BitVec 32) (w : World) :
    Calls Try.prog 24 #[.int .u32 a.toNat, .int .u32 b.toNat] w fun e w' => e = .returned (.int .u32 (M.mul 32 a b).toNat) ∧ w' = w := by
  have ha : a.toNat < 4294967296 := a.isLt
  have hb : b.toNat < 4294967296 := b.isLt
  go_enter Try.func24, Try.ntmps24
  go_wp2
  go_loop [0, 1, 5] (fun x y p => ∃ (n : Nat) (c d q : BitVec 32), x = .int .u32 c.toNat ∧ y = .int .u32 d.toNat ∧ p = .int .u32 q.toNat ∧ q ^^^ M.mul n c d = M.mul 32 a b ∧ d <<< n = 0#32) (fun _ y _ => M.leadN 32 (BitVec.ofInt 32 (intOf y)))
  case atStart => exact ⟨32, a, b, 0#32, rfl, rfl, rfl, by rw [BitVec.zero_xor], by simp⟩
  case round =>
    obtain ⟨n, c, d, q, rfl, rfl, rfl, hr, hz⟩ := hrel
    have HR : Hid (q ^^^ M.mul n c d = M.mul 32 a b) := hr
    have HZ : Hid (d <<< n = 0#32) := hz
    clear hr hz
    have hc : c.toNat < 4294967296 := c.isLt
    have hd : d.toNat < 4294967296 := d.isLt
    have hq : q.toNat < 4294967296 := q.isLt
    by_cases h0 : d = 0#32
    · subst h0
      have HR2 : Hid (q = M.mul 32 a b) := by
        have := HR.out
        rw [M.mul_zero, BitVec.xor_zero] at this
        exact this
      go_wp2
      go_ret
      rw [HR2.out]
      exact ⟨rfl, rfl⟩
    · have hne := ne_zero_bits d h0
      obtain ⟨m, rfl⟩ : ∃ m, n = m + 1 := by
        cases n with
        | zero => exact absurd (by have := HZ.out; rwa [BitVec.shiftLeft_zero] at this) h0
        | succ m => exact ⟨m, rfl⟩
      have HZ2 : Hid ((d <<< 1) <<< m = 0#32) := by
        have := HZ.out
        rw [Nat.add_comm, BitVec.shiftLeft_add] at this
        exact this
      have HL : Hid (M.leadN 32 (d <<< 1) < M.leadN 32 d) := M.lead_less d h0
      have HSL : Hid (_ = _) := shl_bits d
      obtain ⟨D, hD0⟩ : ∃ D, D = d <<< 1 := ⟨_, rfl⟩
      rw [← hD0] at HZ2 HL HSL
      have HD : Hid (D = d <<< 1) := hD0
      clear hD0 h0
      cases htop : d.getLsbD 31
      · have h1 := top_bits d _ htop
        simp only [Bool.false_eq_true, if_false] at h1
        have hr2 : q ^^^ M.mul m (M.sh c) D = M.mul 32 a b := by
          have := HR.out
          rw [M.mul, htop, ← HD.out] at this
          simpa using this
        have HR2 : Hid (q ^^^ M.mul m (M.sh c) D = M.mul 32 a b) := hr2
        clear HR HZ htop hr2
        go_wp2_with fail
        refine (shift1_any c w).mono ?_
        rintro e w1 ⟨rfl, rfl⟩
        go_wp2
        go_round
        case rel => exact ⟨m, M.sh c, D, q, rfl, by rw [HSL.out], rfl, HR2.out, HZ2.out⟩
        case measure =>
          simp only [intOf, back]
          rw [HSL.out, back]
          exact HL.out
      · have h1 := top_bits d _ htop
        simp only [if_true] at h1
        have hr2 : q ^^^ c ^^^ M.mul m (M.sh c) D = M.mul 32 a b := by
          have := HR.out
          rw [M.mul, htop, ← HD.out] at this
          rw [BitVec.xor_assoc]
          simpa using this
        obtain ⟨Q, hQ0⟩ : ∃ Q, Q = q ^^^ c := ⟨_, rfl⟩
        have hQ : bits .xor .u32 (q.toNat : Int) (c.toNat : Int) = (Q.toNat : Int) := by rw [xor_bits, hQ0]
        rw [← hQ0] at hr2
        have HR2 : Hid (Q ^^^ M.mul m (M.sh c) D = M.mul 32 a b) := hr2
        clear HR HZ htop hQ0 hr2
        go_wp2_with fail
        refine (shift1_any c w).mono ?_
        rintro e w1 ⟨rfl, rfl⟩
        go_wp2
        go_round
        case rel => exact ⟨m, M.sh c, D, Q, rfl, by rw [HSL.out], by first | rfl | rw [hQ], HR2.out, HZ2.out⟩
        case measure =>
          simp only [intOf, back]
          rw [HSL.out, back]
          exact HL.out

set_option maxHeartbeats 400000 in
theorem bytesOn_any (n : Nat) (hn : n ≤ 65536) (w : World) :
    Calls Try.prog 25 #[.int .i64 n] w fun e w' => e = .returned (.int .u32 (M.shn (8 * n) M.still).toNat) ∧ w' = w := by
  go_enter Try.func25, Try.ntmps25
  go_wp2
  go_loop [0, 3, 4] (fun i x y => ∃ j e f : Nat, i = .int .i64 j ∧ x = .int .u32 (M.shn e M.still).toNat ∧ y = .int .u32 (M.shn f M.still).toNat ∧ e + f * j = 8 * n ∧ j ≤ 65536) (fun i _ _ => (intOf i).toNat)
  case atStart => exact ⟨n, 0, 8, rfl, rfl, rfl, by omega, hn⟩
  case round =>
    obtain ⟨j, e, f, rfl, rfl, rfl, hr, hj⟩ := hrel
    have HR : Hid (e + f * j = 8 * n) := hr
    clear hr
    have HM1 : Hid (_ = _) := M.mul_powers e f
    have HM2 : Hid (_ = _) := M.mul_powers f f
    have HE : Hid (j = 0 → M.shn e M.still = M.shn (8 * n) M.still) := fun h => by
      have := HR.out
      rw [h, Nat.mul_zero, Nat.add_zero] at this
      rw [this]
    obtain ⟨E, hX0⟩ : ∃ E, M.shn e M.still = E := ⟨_, rfl⟩
    have HX : Hid (M.shn e M.still = E) := hX0
    rw [hX0] at HM1 HE ⊢
    clear hX0
    generalize M.shn f M.still = F at HM1 HM2 ⊢
    have hE : E.toNat < 4294967296 := E.isLt
    have hF : F.toNat < 4294967296 := F.isLt
    by_cases h0 : j = 0
    · subst h0
      go_wp2
      go_ret
      rw [HE.out (by first | trivial | rfl)]
      exact ⟨rfl, rfl⟩
    · rcases Nat.mod_two_eq_zero_or_one j with h2 | h2
      · have h2' : ((j : Int) % 2 == 1) = false := by
          have : ((j : Int) % 2) = 0 := by omega
          rw [this]; rfl
        have HN : Hid (e + (f + f) * (j / 2) = 8 * n) := by
          have h3 : j = 2 * (j / 2) := by omega
          have h4 := HR.out
          rw [h3, ← Nat.mul_assoc, Nat.mul_comm f 2, Nat.two_mul] at h4
          exact h4
        have HEE : Hid (M.shn e M.still = E) := HX.out
        go_wp2_with fail
        refine (times_any F F w).mono ?_
        rintro r w1 ⟨rfl, rfl⟩
        rw [HM2.out]
        go_wp2
        go_round
        case rel => exact ⟨j / 2, e, f + f, by go_num, by rw [HEE.out], rfl, HN.out, by omega⟩
        case measure => simp [intOf]; omega
      · have h2' : ((j : Int) % 2 == 1) = true := by
          have : ((j : Int) % 2) = 1 := by omega
          rw [this]; rfl
        have HN : Hid (e + f + (f + f) * (j / 2) = 8 * n) := by
          have h3 : j = 1 + 2 * (j / 2) := by omega
          have h4 := HR.out
          rw [h3, Nat.mul_add, ← Nat.mul_assoc, Nat.mul_comm f 2, Nat.two_mul, Nat.mul_one, ← Nat.add_assoc] at h4
          exact h4
        go_wp2_with fail
        refine (times_any E F w).mono ?_
        rintro r w1 ⟨rfl, rfl⟩
        rw [HM1.out]
        go_wp2_with fail
        refine (times_any F F w1).mono ?_
        rintro r w2 ⟨rfl, rfl⟩
        rw [HM2.out]
        go_wp2
        go_round
        case rel => exact ⟨j / 2, e + f, f + f, by go_num, rfl, rfl, HN.out, by omega⟩
        case measure => simp [intOf]; omega

def join (a b : BitVec 32) (n : Nat) : BitVec 32 := M.shn (8 * n) a ^^^ b

theorem mul_bytes (a : BitVec 32) (n : Nat) : M.mul 32 a (M.shn (8 * n) M.still) = M.shn (8 * n) a := M.mul_shift _ _

set_option maxHeartbeats 400000 in
theorem join_any (a b : BitVec 32) (n : Nat) (hn : n ≤ 65536) (w : World) :
    Calls Try.prog 18 #[.int .u32 a.toNat, .int .u32 b.toNat, .int .i64 n] w fun e w' => e = .returned (.tuple #[.int .u32 (join a b n).toNat, .int .i64 0]) ∧ w' = w := by
  have ha : a.toNat < 4294967296 := a.isLt
  have hb : b.toNat < 4294967296 := b.isLt
  go_enter Try.func18, Try.ntmps18
  go_wp2_with fail
  refine (bytesOn_any n hn w).mono ?_
  rintro r w1 ⟨rfl, rfl⟩
  have HM : Hid (_ = _) := mul_bytes a n
  generalize M.shn (8 * n) M.still = F at HM ⊢
  have hF : F.toNat < 4294967296 := F.isLt
  go_wp2_with fail
  refine (times_any a F w1).mono ?_
  rintro r w2 ⟨rfl, rfl⟩
  rw [HM.out]
  obtain ⟨A, hA0⟩ : ∃ A, M.shn (8 * n) a = A := ⟨_, rfl⟩
  rw [hA0]
  have HA : Hid (M.shn (8 * n) a = A) := hA0
  clear hA0
  have hA : A.toNat < 4294967296 := A.isLt
  have hX : bits .xor .u32 (A.toNat : Int) (b.toNat : Int) = ((join a b n).toNat : Int) := by rw [xor_bits, join, HA.out]
  go_wp2
  try rw [hX]
  go_ret2
  exact ⟨rfl, rfl⟩

set_option maxHeartbeats 400000 in
theorem join_none (a b : BitVec 32) (n : Int) (hn : ¬ (0 ≤ n ∧ n ≤ 65536)) (w : World) :
    Calls Try.prog 18 #[.int .u32 a.toNat, .int .u32 b.toNat, .int .i64 n] w fun e w' => e = .returned (.tuple #[.int .u32 0, .int .i64 1]) ∧ w' = w := by
  have ha : a.toNat < 4294967296 := a.isLt
  have hb : b.toNat < 4294967296 := b.isLt
  go_enter Try.func18, Try.ntmps18
  go_wp2
  all_goals
    go_ret2
    exact ⟨rfl, rfl⟩

set_option maxHeartbeats 400000 in
theorem refJoin_none (a b : BitVec 32) (n : Int) (hn : ¬ (0 ≤ n ∧ n ≤ 65536)) (w : World) :
    Calls Try.prog 19 #[.int .u32 a.toNat, .int .u32 b.toNat, .int .i64 n] w fun e w' => e = .returned (.tuple #[.int .u32 0, .int .i64 1]) ∧ w' = w := by
  have ha : a.toNat < 4294967296 := a.isLt
  have hb : b.toNat < 4294967296 := b.isLt
  go_enter Try.func19, Try.ntmps19
  go_wp2
  all_goals
    go_ret2
    exact ⟨rfl, rfl⟩

theorem refStep0_any (c : BitVec 32) (w : World) :
    Calls Try.prog 21 #[.int .u32 c.toNat, .int .u8 0] w fun e w' => e = .returned (.int .u32 (M.shn 8 c).toNat) ∧ w' = w := by
  have h := refStep_any c 0 w
  have e : M.step c 0 = M.shn 8 c := by
    unfold M.step
    rw [show M.wide 0 = 0#32 by decide, BitVec.xor_zero]
  rw [e] at h
  exact h

set_option maxHeartbeats 400000 in
theorem refJoin_any (a b : BitVec 32) (n : Nat) (hn : n ≤ 65536) (w : World) :
    Calls Try.prog 19 #[.int .u32 a.toNat, .int .u32 b.toNat, .int .i64 n] w fun e w' => e = .returned (.tuple #[.int .u32 (join a b n).toNat, .int .i64 0]) ∧ w' = w := by
  have ha : a.toNat < 4294967296 := a.isLt
  have hb : b.toNat < 4294967296 := b.isLt
  go_enter Try.func19, Try.ntmps19
  go_wp2
  go_loop [0, 8] (fun x i => ∃ k : Nat, k ≤ n ∧ i = .int .i64 k ∧ x = .int .u32 (M.shn (8 * k) a).toNat) (fun _ i => n - (intOf i).toNat)
  case atStart => exact ⟨0, Nat.zero_le _, rfl, rfl⟩
  case round =>
    obtain ⟨k, hk, rfl, rfl⟩ := hrel
    have HE : Hid (M.shn (8 * (k + 1)) a = M.shn 8 (M.shn (8 * k) a)) := M.shn_add (8 * k) 8 a
    have HN : Hid (k = n → M.shn (8 * k) a = M.shn (8 * n) a) := fun h => by rw [h]
    generalize M.shn (8 * k) a = d at HE HN ⊢
    have hd : d.toNat < 4294967296 := d.isLt
    by_cases hlt : k < n
    · go_wp2_with fail
      refine (refStep0_any d w).mono ?_
      rintro r w1 ⟨rfl, rfl⟩
      go_wp2
      go_round
      case rel => exact ⟨k + 1, by omega, by go_num, by rw [HE.out]⟩
      case measure => simp [intOf]; omega
    · have hX : bits .xor .u32 (d.toNat : Int) (b.toNat : Int) = ((join a b n).toNat : Int) := by rw [xor_bits, join, HN.out (by omega)]
      go_wp2
      try rw [hX]
      go_ret2
      exact ⟨rfl, rfl⟩
end Go.Proofs.Ytimnhccfmehdoaa
