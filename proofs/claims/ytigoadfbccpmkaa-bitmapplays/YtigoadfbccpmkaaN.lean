/-
  The bits of a word, counted by its bytes: plain arithmetic.
-/
import Derived.Test.YtigoadfbccpmkaaM
namespace Go.Proofs.Ytigoadfbccpmkaa.M
set_option linter.unusedVariables false

theorem and_parts (s d e r t : Nat) (hd : d < 2 ^ s) (he : e < 2 ^ s) : (d + 2 ^ s * r) &&& (e + 2 ^ s * t) = (d &&& e) + 2 ^ s * (r &&& t) := by
  apply Nat.eq_of_testBit_eq
  intro j
  have h := Nat.lt_of_le_of_lt (Nat.and_le_left (n := d) (m := e)) hd
  rw [Nat.testBit_and, Nat.add_comm d, Nat.add_comm e, Nat.add_comm (d &&& e), Nat.testBit_two_pow_mul_add _ hd, Nat.testBit_two_pow_mul_add _ he, Nat.testBit_two_pow_mul_add _ h]
  split <;> simp
theorem and_bytes (d e r t : Nat) (hd : d < 256) (he : e < 256) : (d + 256 * r) &&& (e + 256 * t) = (d &&& e) + 256 * (r &&& t) := and_parts 8 d e r t hd he

/-- Bytes, the lowest first. -/
def od : List Nat → Nat
  | [] => 0
  | d :: r => d + 256 * od r
def t1 (a : Nat) : Nat := (a / 2 &&& 85) + (a &&& 85)
def t2 (a : Nat) : Nat := (a / 4 &&& 51) + (a &&& 51)
def t3 (a : Nat) : Nat := (a / 16 + a) % 16
theorem t1_carry : ∀ a, a < 256 → ∀ c, c < 2 → (a / 2 + 128 * c) &&& 85 = a / 2 &&& 85 := by decide +kernel
theorem t2_carry : ∀ a, a < 256 → ∀ c, c < 4 → (a / 4 + 64 * c) &&& 51 = a / 4 &&& 51 := by decide +kernel
theorem t1_ok : ∀ a, a < 256 → t1 a < 256 := by decide +kernel
theorem t2_ok : ∀ a, a < 256 → t2 (t1 a) < 256 ∧ t2 (t1 a) % 16 ≤ 4 ∧ t2 (t1 a) / 16 ≤ 4 := by decide +kernel
theorem t2_69 (a : Nat) (h : a < 256 ∧ a % 16 ≤ 4 ∧ a / 16 ≤ 4) : a < 69 := by omega
theorem t3_ok : ∀ a, a < 256 → t3 (t2 (t1 a)) ≤ 8 := by decide +kernel

theorem s1_od : ∀ l : List Nat, (∀ a ∈ l, a < 256) → (od l / 2 &&& od (l.map fun _ => 85)) + (od l &&& od (l.map fun _ => 85)) = od (l.map t1)
  | [], _ => rfl
  | a :: r, h => by
    have ha : a < 256 := h a (by simp)
    have ih := s1_od r (fun b hb => h b (by simp [hb]))
    simp only [od, List.map_cons]
    rw [show (a + 256 * od r) / 2 = (a / 2 + 128 * (od r % 2)) + 256 * (od r / 2) by omega,
      and_bytes _ 85 _ _ (by omega) (by decide), and_bytes _ 85 _ _ ha (by decide), t1_carry a ha _ (by omega), ← ih, t1]
    omega
theorem s2_od : ∀ l : List Nat, (∀ a ∈ l, a < 256) → (od l / 4 &&& od (l.map fun _ => 51)) + (od l &&& od (l.map fun _ => 51)) = od (l.map t2)
  | [], _ => rfl
  | a :: r, h => by
    have ha : a < 256 := h a (by simp)
    have ih := s2_od r (fun b hb => h b (by simp [hb]))
    simp only [od, List.map_cons]
    rw [show (a + 256 * od r) / 4 = (a / 4 + 64 * (od r % 4)) + 256 * (od r / 4) by omega,
      and_bytes _ 51 _ _ (by omega) (by decide), and_bytes _ 51 _ _ ha (by decide), t2_carry a ha _ (by omega), ← ih, t2]
    omega
theorem and15 (x : Nat) : x &&& 15 = x % 16 := Nat.and_two_pow_sub_one_eq_mod x 4
theorem s3_od : ∀ l : List Nat, (∀ a ∈ l, a < 256 ∧ a % 16 ≤ 4 ∧ a / 16 ≤ 4) → (od l / 16 + od l) &&& od (l.map fun _ => 15) = od (l.map t3)
  | [], _ => rfl
  | a :: r, h => by
    have ha := h a (by simp)
    have ih := s3_od r (fun b hb => h b (by simp [hb]))
    have hr : od r % 16 ≤ 4 := by
      cases r with
      | nil => simp [od]
      | cons b q => have := h b (by simp); simp only [od]; omega
    simp only [od, List.map_cons]
    rw [show (a + 256 * od r) / 16 + (a + 256 * od r) = (a / 16 + a + 16 * (od r % 16)) + 256 * (od r / 16 + od r) by omega,
      and_bytes _ 15 _ _ (by omega) (by decide), and15, ih, t3]
    omega

theorem wdN_add (f : Nat → Bool) (b m : Nat) : ∀ n, wdN f b (m + n) = wdN f b m + 2 ^ m * wdN f (b + m) n
  | 0 => by simp [wdN]
  | n + 1 => by
    rw [← Nat.add_assoc, wdN, wdN_add f b m n, wdN, Nat.mul_add, ← Nat.mul_assoc, ← Nat.pow_add, Nat.add_assoc b m n]
    omega
/-- The bytes of a word. -/
def by8 (f : Nat → Bool) (b : Nat) : Nat → List Nat
  | 0 => []
  | k + 1 => wdN f b 8 :: by8 f (b + 8) k
theorem by8_od (f : Nat → Bool) : ∀ k b, od (by8 f b k) = wdN f b (8 * k)
  | 0, b => rfl
  | k + 1, b => by
    rw [by8, od, by8_od f k, show 8 * (k + 1) = 8 + 8 * k by omega, wdN_add]
theorem by8_lt (f : Nat → Bool) : ∀ k b, ∀ a ∈ by8 f b k, a < 256
  | 0, b, a, h => by cases h
  | k + 1, b, a, h => by
    rcases List.mem_cons.1 h with rfl | h
    · exact wdN_lt f b 8
    · exact by8_lt f k _ a h
set_option maxRecDepth 100000 in
theorem pop_bools : ∀ b0 b1 b2 b3 b4 b5 b6 b7 : Bool, t3 (t2 (t1 (2 ^ 7 * (if b7 then 1 else 0) + (2 ^ 6 * (if b6 then 1 else 0) + (2 ^ 5 * (if b5 then 1 else 0) + (2 ^ 4 * (if b4 then 1 else 0) + (2 ^ 3 * (if b3 then 1 else 0) + (2 ^ 2 * (if b2 then 1 else 0) + (2 ^ 1 * (if b1 then 1 else 0) + (2 ^ 0 * (if b0 then 1 else 0) + 0)))))))))) = 0 + (if b0 then 1 else 0) + (if b1 then 1 else 0) + (if b2 then 1 else 0) + (if b3 then 1 else 0) + (if b4 then 1 else 0) + (if b5 then 1 else 0) + (if b6 then 1 else 0) + (if b7 then 1 else 0) := by decide +kernel
theorem pop_byte (f : Nat → Bool) (b : Nat) : t3 (t2 (t1 (wdN f b 8))) = cnt f b 8 := pop_bools (f (b + 0)) (f (b + 1)) (f (b + 2)) (f (b + 3)) (f (b + 4)) (f (b + 5)) (f (b + 6)) (f (b + 7))

def c0' : Nat := 6148914691236517205
theorem div_split (x A B m : Nat) (h : x = A + m * B) (hA : A < m) : x / m = B := by
  subst h
  rw [Nat.add_mul_div_left A B (by omega), Nat.div_eq_of_lt hA, Nat.zero_add]
theorem mod_split (x A B m : Nat) (h : x = A + m * B) (hA : A < m) : x % m = A := by
  subst h
  rw [Nat.add_mul_mod_self_left, Nat.mod_eq_of_lt hA]
theorem lin4 (q0 q1 q2 q3 q4 q5 q6 q7 : Nat) : q0 + 256 * (q1 + 256 * (q2 + 256 * (q3 + 256 * (q4 + 256 * (q5 + 256 * (q6 + 256 * (q7 + 256 * 0))))))) + (q1 + 256 * (q2 + 256 * (q3 + 256 * (q4 + 256 * (q5 + 256 * (q6 + 256 * (q7 + 256 * 0))))))) = (q0 + q1 + 256 * (q1 + q2)) + 65536 * (q2 + q3 + 256 * (q3 + q4 + 256 * (q4 + q5 + 256 * (q5 + q6 + 256 * (q6 + q7 + 256 * q7))))) := by omega
theorem lin5 (q0 q1 q2 q3 q4 q5 q6 q7 : Nat) : (q0 + q1 + 256 * (q1 + q2)) + 65536 * (q2 + q3 + 256 * (q3 + q4 + 256 * (q4 + q5 + 256 * (q5 + q6 + 256 * (q6 + q7 + 256 * q7))))) + (q2 + q3 + 256 * (q3 + q4 + 256 * (q4 + q5 + 256 * (q5 + q6 + 256 * (q6 + q7 + 256 * q7))))) = ((q0 + q1 + q2 + q3) + 256 * (q1 + q2 + q3 + q4) + 65536 * (q2 + q3 + q4 + q5) + 16777216 * (q3 + q4 + q5 + q6)) + 4294967296 * (q4 + q5 + q6 + q7 + 256 * (q5 + q6 + q7 + 256 * (q6 + q7 + 256 * q7))) := by omega
theorem lin6 (q0 q1 q2 q3 q4 q5 q6 q7 : Nat) : ((q0 + q1 + q2 + q3) + 256 * (q1 + q2 + q3 + q4) + 65536 * (q2 + q3 + q4 + q5) + 16777216 * (q3 + q4 + q5 + q6)) + 4294967296 * (q4 + q5 + q6 + q7 + 256 * (q5 + q6 + q7 + 256 * (q6 + q7 + 256 * q7))) + (q4 + q5 + q6 + q7 + 256 * (q5 + q6 + q7 + 256 * (q6 + q7 + 256 * q7))) = (q0 + q1 + q2 + q3 + q4 + q5 + q6 + q7) + 128 * (2 * (q1 + q2 + q3 + q4 + q5 + q6 + q7) + 512 * (q2 + q3 + q4 + q5 + q6 + q7) + 131072 * (q3 + q4 + q5 + q6 + q7) + 33554432 * (q4 + q5 + q6 + q7 + 256 * (q5 + q6 + q7 + 256 * (q6 + q7 + 256 * q7)))) := by omega
theorem bnds (q0 q1 q2 q3 q4 q5 q6 q7 : Nat) (h0 : q0 ≤ 8) (h1 : q1 ≤ 8) (h2 : q2 ≤ 8) (h3 : q3 ≤ 8) (h4 : q4 ≤ 8) (h5 : q5 ≤ 8) (h6 : q6 ≤ 8) (h7 : q7 ≤ 8) :
   q0 < 256 ∧ q0 + q1 + 256 * (q1 + q2) < 65536 ∧ (q0 + q1 + q2 + q3) + 256 * (q1 + q2 + q3 + q4) + 65536 * (q2 + q3 + q4 + q5) + 16777216 * (q3 + q4 + q5 + q6) < 4294967296 ∧ q0 + q1 + q2 + q3 + q4 + q5 + q6 + q7 < 128 := by
  refine ⟨by omega, by omega, by omega, by omega⟩
theorem big3 (q0 q1 q2 q3 q4 q5 q6 q7 : Nat) (h0 : q0 ≤ 8) (h1 : q1 ≤ 8) (h2 : q2 ≤ 8) (h3 : q3 ≤ 8) (h4 : q4 ≤ 8) (h5 : q5 ≤ 8) (h6 : q6 ≤ 8) (h7 : q7 ≤ 8) : q0 + 256 * (q1 + 256 * (q2 + 256 * (q3 + 256 * (q4 + 256 * (q5 + 256 * (q6 + 256 * (q7 + 256 * 0))))))) < 1000000000000000000 := by omega
theorem tail_steps (q0 q1 q2 q3 q4 q5 q6 q7 : Nat) (h0 : q0 ≤ 8) (h1 : q1 ≤ 8) (h2 : q2 ≤ 8) (h3 : q3 ≤ 8) (h4 : q4 ≤ 8) (h5 : q5 ≤ 8) (h6 : q6 ≤ 8) (h7 : q7 ≤ 8) (x3 x4 x5 x6 : Nat)
    (e3 : x3 = q0 + 256 * (q1 + 256 * (q2 + 256 * (q3 + 256 * (q4 + 256 * (q5 + 256 * (q6 + 256 * (q7 + 256 * 0)))))))) (e4 : x4 = x3 + x3 / 256) (e5 : x5 = x4 + x4 / 65536) (e6 : x6 = x5 + x5 / 4294967296) :
    x4 < 18446744073709551616 ∧ x5 < 18446744073709551616 ∧ x6 < 9223372036854775808 ∧ x6 % 128 = q0 + q1 + q2 + q3 + q4 + q5 + q6 + q7 ∧ x3 < 18446744073709551616 := by
  have hb := bnds q0 q1 q2 q3 q4 q5 q6 q7 h0 h1 h2 h3 h4 h5 h6 h7
  have h3b : x3 < 1000000000000000000 := by rw [e3]; exact big3 q0 q1 q2 q3 q4 q5 q6 q7 h0 h1 h2 h3 h4 h5 h6 h7
  have l4 : x3 / 256 ≤ x3 := Nat.div_le_self _ _
  have l5 : x4 / 65536 ≤ x4 := Nat.div_le_self _ _
  have l6 : x5 / 4294967296 ≤ x5 := Nat.div_le_self _ _
  have d1 := div_split x3 _ _ _ e3 hb.1
  have d4 : x4 = (q0 + q1 + 256 * (q1 + q2)) + 65536 * (q2 + q3 + 256 * (q3 + q4 + 256 * (q4 + q5 + 256 * (q5 + q6 + 256 * (q6 + q7 + 256 * q7))))) := by
    rw [e4, d1, e3, lin4]
  have d2 := div_split x4 _ _ _ d4 hb.2.1
  have d5 : x5 = ((q0 + q1 + q2 + q3) + 256 * (q1 + q2 + q3 + q4) + 65536 * (q2 + q3 + q4 + q5) + 16777216 * (q3 + q4 + q5 + q6)) + 4294967296 * (q4 + q5 + q6 + q7 + 256 * (q5 + q6 + q7 + 256 * (q6 + q7 + 256 * q7))) := by
    rw [e5, d2, d4, lin5]
  have d3 := div_split x5 _ _ _ d5 hb.2.2.1
  have d6 : x6 = (q0 + q1 + q2 + q3 + q4 + q5 + q6 + q7) + 128 * (2 * (q1 + q2 + q3 + q4 + q5 + q6 + q7) + 512 * (q2 + q3 + q4 + q5 + q6 + q7) + 131072 * (q3 + q4 + q5 + q6 + q7) + 33554432 * (q4 + q5 + q6 + q7 + 256 * (q5 + q6 + q7 + 256 * (q6 + q7 + 256 * q7)))) := by
    rw [e6, d3, d5, lin6]
  have m6 := mod_split x6 _ _ _ d6 hb.2.2.2
  clear d1 d2 d3 d4 d5 d6 e3 hb h0 h1 h2 h3 h4 h5 h6 h7
  generalize x3 / 256 = a at *
  generalize x4 / 65536 = b at *
  generalize x5 / 4294967296 = c at *
  exact ⟨by omega, by omega, by omega, m6, by omega⟩
theorem hz (q r B : Nat) (h : q < 256) (hr : r < B) : q + 256 * r < 256 * B := by omega
theorem big1 (q0 q1 q2 q3 q4 q5 q6 q7 : Nat) (h0 : q0 < 256) (h1 : q1 < 256) (h2 : q2 < 256) (h3 : q3 < 256) (h4 : q4 < 256) (h5 : q5 < 256) (h6 : q6 < 256) (h7 : q7 < 256) : q0 + 256 * (q1 + 256 * (q2 + 256 * (q3 + 256 * (q4 + 256 * (q5 + 256 * (q6 + 256 * (q7 + 256 * 0))))))) < 18446744073709551616 :=
  (hz q0 _ 72057594037927936 h0 (hz q1 _ 281474976710656 h1 (hz q2 _ 1099511627776 h2 (hz q3 _ 4294967296 h3 (hz q4 _ 16777216 h4 (hz q5 _ 65536 h5 (hz q6 _ 256 h6 (by omega))))))))
theorem big2 (q0 q1 q2 q3 q4 q5 q6 q7 : Nat) (h0 : q0 < 69) (h1 : q1 < 69) (h2 : q2 < 69) (h3 : q3 < 69) (h4 : q4 < 69) (h5 : q5 < 69) (h6 : q6 < 69) (h7 : q7 < 69) : q0 + 256 * (q1 + 256 * (q2 + 256 * (q3 + 256 * (q4 + 256 * (q5 + 256 * (q6 + 256 * (q7 + 256 * 0))))))) < 5000000000000000000 :=
  Nat.lt_trans (hz q0 _ 19421773393035264 (Nat.lt_trans h0 (by decide)) (hz q1 _ 75866302316544 (Nat.lt_trans h1 (by decide)) (hz q2 _ 296352743424 (Nat.lt_trans h2 (by decide)) (hz q3 _ 1157627904 (Nat.lt_trans h3 (by decide)) (hz q4 _ 4521984 (Nat.lt_trans h4 (by decide)) (hz q5 _ 17664 (Nat.lt_trans h5 (by decide)) (hz q6 _ 69 (Nat.lt_trans h6 (by decide)) (by omega)))))))) (by decide)
set_option maxHeartbeats 4000000 in
/-- The steps of the count. -/
theorem ones_steps (f : Nat → Bool) (b : Nat) : ∃ x1 x2 x3 x4 x5 x6 : Nat,
    x1 = (wdN f b 64 / 2 &&& 6148914691236517205) + (wdN f b 64 &&& 6148914691236517205) ∧ x1 < 18446744073709551616 ∧
    x2 = (x1 / 4 &&& 3689348814741910323) + (x1 &&& 3689348814741910323) ∧ x2 < 18446744073709551616 ∧ x2 / 16 + x2 < 18446744073709551616 ∧
    x3 = (x2 / 16 + x2) &&& 1085102592571150095 ∧
    x4 = x3 + x3 / 256 ∧ x4 < 18446744073709551616 ∧ x5 = x4 + x4 / 65536 ∧ x5 < 18446744073709551616 ∧ x6 = x5 + x5 / 4294967296 ∧ x6 < 9223372036854775808 ∧ x6 % 128 = cnt f b 64 ∧ x3 < 18446744073709551616 := by
  have hl := by8_lt f 8 b
  have h0 : od (by8 f b 8) = wdN f b 64 := by have := by8_od f 8 b; simpa only [Nat.reduceMul] using this
  have e1 := s1_od (by8 f b 8) hl
  have hl1 : ∀ a ∈ (by8 f b 8).map t1, a < 256 := by
    intro a ha
    obtain ⟨a', h', rfl⟩ := List.mem_map.1 ha
    exact t1_ok a' (hl a' h')
  have e2 := s2_od ((by8 f b 8).map t1) hl1
  have hl2 : ∀ a ∈ ((by8 f b 8).map t1).map t2, a < 256 ∧ a % 16 ≤ 4 ∧ a / 16 ≤ 4 := by
    intro a ha
    rw [List.map_map] at ha
    obtain ⟨a', h', rfl⟩ := List.mem_map.1 ha
    exact t2_ok a' (hl a' h')
  have e3 := s3_od (((by8 f b 8).map t1).map t2) hl2
  have k0 : od ((by8 f b 8).map fun _ => 85) = 6148914691236517205 := by simp [by8, od]
  have k1 : od (((by8 f b 8).map t1).map fun _ => 51) = 3689348814741910323 := by simp [by8, od]
  have k2 : od ((((by8 f b 8).map t1).map t2).map fun _ => 15) = 1085102592571150095 := by simp [by8, od]
  rw [k0] at e1
  rw [k1] at e2
  rw [k2] at e3
  rw [h0] at e1
  have hc : ∀ j, t3 (t2 (t1 (wdN f j 8))) ≤ 8 := fun j => t3_ok _ (wdN_lt f j 8)
  have b1 : ∀ j, t1 (wdN f j 8) < 256 := fun j => t1_ok _ (wdN_lt f j 8)
  have b2 : ∀ j, t2 (t1 (wdN f j 8)) < 69 := fun j => t2_69 _ (t2_ok _ (wdN_lt f j 8))
  have E3 : od ((((by8 f b 8).map t1).map t2).map t3) = cnt f b 8 + 256 * (cnt f (b + 8) 8 + 256 * (cnt f (b + 8 + 8) 8 + 256 * (cnt f (b + 8 + 8 + 8) 8 + 256 * (cnt f (b + 8 + 8 + 8 + 8) 8 + 256 * (cnt f (b + 8 + 8 + 8 + 8 + 8) 8 + 256 * (cnt f (b + 8 + 8 + 8 + 8 + 8 + 8) 8 + 256 * (cnt f (b + 8 + 8 + 8 + 8 + 8 + 8 + 8) 8 + 256 * 0))))))) := by
    simp only [by8, List.map_cons, List.map_nil, od, pop_byte]
  have ec : cnt f b 64 = cnt f b 8 + cnt f (b + 8) 8 + cnt f (b + 8 + 8) 8 + cnt f (b + 8 + 8 + 8) 8 + cnt f (b + 8 + 8 + 8 + 8) 8 + cnt f (b + 8 + 8 + 8 + 8 + 8) 8 + cnt f (b + 8 + 8 + 8 + 8 + 8 + 8) 8 + cnt f (b + 8 + 8 + 8 + 8 + 8 + 8 + 8) 8 := by
    have a1 : cnt f b (8 + 56) = _ := cnt_add f b 8 56
    have a2 : cnt f (b + 8) (8 + 48) = _ := cnt_add f (b + 8) 8 48
    have a3 : cnt f (b + 8 + 8) (8 + 40) = _ := cnt_add f (b + 8 + 8) 8 40
    have a4 : cnt f (b + 8 + 8 + 8) (8 + 32) = _ := cnt_add f (b + 8 + 8 + 8) 8 32
    have a5 : cnt f (b + 8 + 8 + 8 + 8) (8 + 24) = _ := cnt_add f (b + 8 + 8 + 8 + 8) 8 24
    have a6 : cnt f (b + 8 + 8 + 8 + 8 + 8) (8 + 16) = _ := cnt_add f (b + 8 + 8 + 8 + 8 + 8) 8 16
    have a7 : cnt f (b + 8 + 8 + 8 + 8 + 8 + 8) (8 + 8) = _ := cnt_add f (b + 8 + 8 + 8 + 8 + 8 + 8) 8 8
    simp only [Nat.reduceAdd] at a1 a2 a3 a4 a5 a6 a7
    omega
  have E1 : od ((by8 f b 8).map t1) < 18446744073709551616 := by
    simp only [by8, List.map_cons, List.map_nil, od]
    exact big1 _ _ _ _ _ _ _ _ (b1 _) (b1 _) (b1 _) (b1 _) (b1 _) (b1 _) (b1 _) (b1 _)
  have E2 : od (((by8 f b 8).map t1).map t2) < 5000000000000000000 := by
    simp only [by8, List.map_cons, List.map_nil, od]
    exact big2 _ _ _ _ _ _ _ _ (b2 _) (b2 _) (b2 _) (b2 _) (b2 _) (b2 _) (b2 _) (b2 _)
  obtain ⟨x1, hx1⟩ : ∃ x1, x1 = od ((by8 f b 8).map t1) := ⟨_, rfl⟩
  obtain ⟨x2, hx2⟩ : ∃ x2, x2 = od (((by8 f b 8).map t1).map t2) := ⟨_, rfl⟩
  obtain ⟨x3, hx3⟩ : ∃ x3, x3 = od ((((by8 f b 8).map t1).map t2).map t3) := ⟨_, rfl⟩
  rw [← hx1] at e1 e2 E1
  rw [← hx2] at e2 e3 E2
  rw [← hx3] at e3 E3
  have T := tail_steps _ _ _ _ _ _ _ _ (cnt_le f b 8) (cnt_le f (b + 8) 8) (cnt_le f (b + 8 + 8) 8) (cnt_le f (b + 8 + 8 + 8) 8) (cnt_le f (b + 8 + 8 + 8 + 8) 8) (cnt_le f (b + 8 + 8 + 8 + 8 + 8) 8) (cnt_le f (b + 8 + 8 + 8 + 8 + 8 + 8) 8) (cnt_le f (b + 8 + 8 + 8 + 8 + 8 + 8 + 8) 8) x3 _ _ _ E3 rfl rfl rfl
  rw [← ec] at T
  obtain ⟨H1, H2, H3, H4, H5⟩ := T
  have l16 : x2 / 16 ≤ x2 := Nat.div_le_self _ _
  have B2 : x2 < 18446744073709551616 ∧ x2 / 16 + x2 < 18446744073709551616 := by
    clear e1 e2 e3 E1 E3 ec H1 H2 H3 H4 H5 hx1 hx2 hx3
    generalize x2 / 16 = y at *
    omega
  exact ⟨x1, x2, x3, _, _, _, e1.symm, E1, e2.symm, B2.1, B2.2, e3.symm, rfl, H1, rfl, H2, rfl, H3, H4, H5⟩
end Go.Proofs.Ytigoadfbccpmkaa.M
