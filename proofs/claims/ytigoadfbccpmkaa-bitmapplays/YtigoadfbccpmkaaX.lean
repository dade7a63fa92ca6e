/-
  The document's answer: a map's text.
-/
import Derived.Test.YtigoadfbccpmkaaV
import Derived.Test.YtigoadfbccpmkaaI
namespace Go.Proofs.Ytigoadfbccpmkaa
open Go.RowKit
set_option linter.unusedVariables false

/-- The bytes when the first k bits are laid. -/
def bts (f : Nat → Bool) (t k : Nat) : List UInt8 := (List.range t).map (bb (upto f k))
theorem bts_len (f : Nat → Bool) (t k : Nat) : (bts f t k).length = t := by simp [bts]
theorem bts_get (f : Nat → Bool) (t k j : Nat) (h : j < (bts f t k).length) : (bts f t k)[j] = bb (upto f k) j := by simp [bts]
theorem bb_congr (f g : Nat → Bool) (j : Nat) (h : ∀ i, i < 8 → f (8 * j + i) = g (8 * j + i)) : bb f j = bb g j := by
  unfold bb M.byt
  rw [M.wdN_congr f g _ _ 8 h]
theorem bb_nof (j : Nat) : bb M.nof j = 0 := by
  unfold bb M.byt
  rw [← M.wdN_eq M.nof (8 * j) 8 0 (by decide) (fun i _ => by simp [M.nof])]
  rfl
theorem bts_zero (f : Nat → Bool) (t : Nat) : bts f t 0 = List.replicate t 0 := by
  apply List.ext_getElem
  · simp [bts]
  · intro i h1 h2
    rw [bts_get, bb_congr (upto f 0) M.nof i (fun j _ => by simp [upto, M.nof]), bb_nof]
    simp
theorem bts_skip (f : Nat → Bool) (t k : Nat) (h : f k = false) : bts f t k = bts f t (k + 1) := by
  apply List.map_congr_left
  intro j _
  refine bb_congr _ _ _ fun i _ => ?_
  simp only [upto]
  by_cases e : 8 * j + i = k
  · rw [e, h]; simp
  · have : (8 * j + i < k) = (8 * j + i < k + 1) := by apply propext; constructor <;> intro h <;> omega
    simp only [this]
theorem bts_set (f : Nat → Bool) (t k : Nat) : (bts f t k).set (k / 8) (bb (upto f (k + 1)) (k / 8)) = bts f t (k + 1) := by
  apply List.ext_getElem
  · simp [bts]
  · intro i h1 h2
    rw [List.getElem_set]
    by_cases e : k / 8 = i
    · subst e; simp [bts]
    · simp only [e, if_false, bts, List.getElem_map, List.getElem_range]
      refine bb_congr _ _ _ fun j hj => ?_
      simp only [upto]
      have : (8 * i + j < k) = (8 * i + j < k + 1) := by apply propext; constructor <;> intro h <;> omega
      simp only [this]
theorem bts_all (f : Nat → Bool) (n : Nat) (h : ∀ i, n ≤ i → f i = false) : bts f ((n + 7) / 8) n = textOf f n := by
  apply List.map_congr_left
  intro j _
  refine bb_congr _ _ _ fun i _ => ?_
  simp only [upto]
  by_cases e : 8 * j + i < n
  · simp [e]
  · simp [e, h (8 * j + i) (by omega)]
theorem byt_step (f : Nat → Bool) (k : Nat) (h : f k = true) : M.byt (upto f k) (k / 8) ||| 2 ^ (k % 8) = M.byt (upto f (k + 1)) (k / 8) := by
  refine M.wdN_eq _ _ 8 _ (Nat.or_lt_two_pow (n := 8) (M.byt_lt _ _) (Nat.pow_lt_pow_right (by decide) (Nat.mod_lt _ (by decide)))) fun j hj => ?_
  rw [Nat.testBit_or, M.byt_bit _ _ _ hj, Nat.testBit_two_pow]
  simp only [upto]
  by_cases e : 8 * (k / 8) + j = k
  · rw [e, h]; simp; omega
  · have h1 : (8 * (k / 8) + j < k) = (8 * (k / 8) + j < k + 1) := by apply propext; constructor <;> intro h <;> omega
    have h2 : decide (k % 8 = j) = false := by simp; omega
    simp only [h1, h2, Bool.or_false]
theorem or_step (f : Nat → Bool) (k : Nat) (h : f k = true) : bits .or .u8 ((bb (upto f k) (k / 8)).toNat : Int) (2 ^ (k % 8) % 256) = ((bb (upto f (k + 1)) (k / 8)).toNat : Int) := by
  have h8 : k % 8 < 8 := Nat.mod_lt _ (by decide)
  have hp : 2 ^ (k % 8) < 256 := Nat.pow_lt_pow_right (a := 2) (by decide) h8
  have e : (2 : Int) ^ (k % 8) % 256 = ((2 ^ (k % 8) : Nat) : Int) := by
    have : ((2 : Int) ^ (k % 8)) = ((2 ^ (k % 8) : Nat) : Int) := by simp
    rw [this]
    generalize 2 ^ (k % 8) = q at hp
    omega
  rw [e, bb_nat, bb_nat, u8_or_nat _ _ (M.byt_lt _ _) hp, byt_step f k h]

set_option maxRecDepth 100000 in
set_option maxHeartbeats 1000000 in
theorem refText_any (n : Nat) (f : Nat → Bool) (a : Option Addr) (cap : Nat) (w : World) (hn : n ≤ 4096) (hoff : ∀ i, n ≤ i → f i = false) (ha : At w a Value.bool (bl n f)) :
    Calls Try.prog 24 #[.slice a n cap] w fun e w' => e = .returned (.string (ofL (textOf f n))) ∧ Below w.heap.size w w' := by
  obtain ⟨t, ht⟩ : ∃ t, t = (n + 7) / 8 := ⟨_, rfl⟩
  have ht2 : t ≤ 512 := by omega
  have htd : ((n : Int) + 7) / 8 = (t : Int) := by omega
  have hnt : n ≤ 8 * t := by omega
  have HAL : Hid (bts f t n = textOf f n) := by show _ = _; rw [ht]; exact bts_all f n hoff
  have HA : Hid (At w a Value.bool (bl n f)) := ha
  obtain ⟨i0, hi, hz0, hz1, hz2⟩ := info_parts Try.info5
  clear ht ha hoff
  go_enter Try.func24, Try.ntmps24
  go_wp2_with (at_make; refine wpList_make_full _ rfl (.tmp 8) (.tmp 8) 71 rfl w.heap.size 5 i0 (.int .u8 0) 1 Try.underlying71 hi hz0 hz1 .i64 .i64 _ _ t rfl rfl htd htd (by rw [hz2]; omega) (by unfold maxLen; omega) (Nat.le_refl _) ?_; intro w1 ho hg; rw [made_cells] at ho; have hrow := row_of_owns (by simp) ho; clear ho)
  have hb1 := (Below.refl w.heap.size w).grown hg (Nat.le_refl _) (by simp)
  clear hi hz0 hz1 hz2 hg
  go_loopw [4] (fun i wr => ∃ k : Nat, k ≤ n ∧ i = .int .i64 k ∧ Hid (Row wr w.heap.size (bts f t k)) ∧ Below w.heap.size w wr) (fun i _ => n - (intOf i).toNat)
  case atStart => exact ⟨0, Nat.zero_le _, rfl, by rw [bts_zero]; exact hrow, hb1⟩
  case round =>
    obtain ⟨k, hk, rfl, HR, hbel⟩ := hrel
    clear hrow hb1
    by_cases hlk : k < n
    · obtain ⟨b, off, rfl, hc⟩ := (HA.out.keep hbel) k (by rw [bl_len]; exact hlk)
      rw [bl_get] at hc
      have hq : k / 8 < t := by omega
      cases hfk : f k
      · rw [hfk] at hc
        have HR2 : Hid (Row wr w.heap.size (bts f t (k + 1))) := by have := HR.out; rw [bts_skip f t k hfk] at this; exact this
        clear HR hfk HA
        go_wp2
        go_roundw
        case rel => exact ⟨k + 1, by omega, by go_num, HR2, hbel⟩
        case measure => simp [intOf]; omega
      · rw [hfk] at hc
        have hcell := HR.out.cell (k / 8) (by rw [bts_len]; exact hq)
        rw [bts_get] at hcell
        have hfr := HR.out.free (k / 8)
        have hor := or_step f k hfk
        have HR2 : Hid (Row (wr.setCell ⟨w.heap.size, k / 8, none⟩ (.int .u8 ((bb (upto f (k + 1)) (k / 8)).toNat : Int))) w.heap.size (bts f t (k + 1))) := by
          have := HR.out.set (k / 8) (bb (upto f (k + 1)) (k / 8))
          rw [bts_set] at this
          exact this
        have HB2 : Hid (Below w.heap.size w (wr.setCell ⟨w.heap.size, k / 8, none⟩ (.int .u8 ((bb (upto f (k + 1)) (k / 8)).toNat : Int)))) := hbel.setCell (Nat.le_refl _) _
        have hx : (bb (upto f k) (k / 8)).toNat < 256 := (bb (upto f k) (k / 8)).toNat_lt
        clear HR hfk HA hbel
        generalize (bb (upto f (k + 1)) (k / 8)).toNat = y at *
        generalize (bb (upto f k) (k / 8)).toNat = x at *
        go_wp2
        go_roundw
        case rel => exact ⟨k + 1, by omega, by go_num, HR2, HB2.out⟩
        case measure => simp [intOf]; omega
    · have hkn : k = n := by omega
      subst hkn
      have hrow := HR.out
      rw [HAL.out] at hrow
      have hcv := hrow.convert t t (by rw [← HAL.out, bts_len])
      go_wp2
      go_ret
      exact ⟨rfl, hbel⟩
end Go.Proofs.Ytigoadfbccpmkaa
