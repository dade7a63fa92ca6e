/-
  Take and Free.
-/
import Derived.Test.YtigoadfbccpmkaaD
import Derived.Test.YtigoadfbccpmkaaE
import Derived.Test.YtigoadfbccpmkaaQ
namespace Go.Proofs.Ytigoadfbccpmkaa
open Go.RowKit
set_option linter.unusedVariables false

/-- What Take leaves and tells. -/
def takf (n : Nat) (f : Nat → Bool) (k : Int) : Nat → Bool := if k < 1 then f else if M.find f n k < 0 then f else M.orf f (M.rowf (M.find f n k).toNat k.toNat)
def takp (n : Nat) (f : Nat → Bool) (k : Int) : Int := if k < 1 then 0 else if M.find f n k < 0 then 0 else M.find f n k
def take (n : Nat) (f : Nat → Bool) (k : Int) : Int := if k < 1 then 1 else if M.find f n k < 0 then 5 else 0

set_option maxHeartbeats 400000 in
theorem take_nil (k : Int) (w : World) : Calls Try.prog 14 #[.pointer none, .int .i64 k] w fun e w' => e = .returned (.tuple #[.int .i64 0, .int .i64 1]) ∧ w' = w := by
  go_enter Try.func14, Try.ntmps14
  go_wp2
  go_ret2
  exact ⟨rfl, rfl⟩
set_option maxRecDepth 100000 in
set_option maxHeartbeats 2000000 in
theorem take_any (b n : Nat) (f : Nat → Bool) (k : Int) (w : World) (h : MIs w b n f) :
    Calls Try.prog 14 #[.pointer (some ⟨b, 0, none⟩), .int .i64 k] w fun e w' => e = .returned (.tuple #[.int .i64 (takp n f k), .int .i64 (take n f k)]) ∧ MIs w' b n (takf n f k) ∧ w.grownBy w' (some b) := by
  have hle := h.le
  by_cases h1 : k < 1
  · have hd : decide (k < 1) = true := by simpa using h1
    simp only [takp, take, takf, if_pos h1]
    go_enter Try.func14, Try.ntmps14
    go_wp2
    go_ret2
    exact ⟨rfl, h, World.grownBy.refl _ _⟩
  · have hd : decide (k < 1) = false := by simpa using h1
    have hf := find_any b n f k w h
    rcases M.find_cases f n k with he | ⟨a, m, rfl, hm1, he, ham, hfree⟩
    · simp only [takp, take, takf, if_neg h1, if_pos (show M.find f n k < 0 by omega)]
      rw [he] at hf
      go_enter Try.func14, Try.ntmps14
      go_wp2_with fail
      refine hf.mono ?_
      rintro e w1 ⟨rfl, hb1⟩
      go_wp2
      go_ret2
      exact ⟨rfl, h.below hb1, grown_below hb1⟩
    · simp only [takp, take, takf, if_neg h1, if_neg (show ¬ M.find f n (m : Int) < 0 by omega)]
      rw [he] at hf
      rw [he]
      simp only [Int.toNat_natCast]
      go_enter Try.func14, Try.ntmps14
      go_wp2_with fail
      refine hf.mono ?_
      rintro e w1 ⟨rfl, hb1⟩
      have h1 := (h.below hb1).drew
      have ld1 := h1.ld
      go_wp2_with fail
      go_region_with ((first | (go_at_call 32; refine (row_any a m (by omega) _).mono ?_; rintro e w2 ⟨rfl, hb2⟩; have h2 := h1.below hb2; have ld2 := h2.ld) | (go_at_call 31; refine (with_any f (M.rowf a m) _).mono ?_; rintro e w3 ⟨rfl, hb3⟩; have h3 := h2.below hb3; have st3 := h3.st (M.orf f (M.rowf a m)))))
      all_goals
        go_wp2
        go_ret2
        exact ⟨rfl, h3.set _ (orf_off h1.off ham), grown_trans (grown_below hb1) (fin3 hb2 hb3 _)⟩

theorem row2 {w : World} {k : Nat} {v0 v1 : Value} {t : TypeId} (h : w.heap[k]? = some (.cells #[v0, v1] t (0, 0))) :
    w.cell? ⟨k, 0, none⟩ = some v0 ∧ w.cell? ⟨k, 1, none⟩ = some v1 :=
  ⟨by rw [cell_of_row w k 0 _ _ _ h]; rfl, by rw [cell_of_row w k 1 _ _ _ h]; rfl⟩

set_option maxRecDepth 100000 in
set_option maxHeartbeats 2000000 in
theorem free_nil (a l : Int) (w : World) : Calls Try.prog 16 #[.pointer none, .agg #[.int .i64 a, .int .i64 l]] w fun e w' => e = .returned (.int .i64 1) ∧ Below w.heap.size w w' := by
  go_enter Try.func16, Try.ntmps16
  go_wp2_with fail
  go_quiet ((go_at_call 30; refine Calls.quiet_of_same (has_nil a _)))
  all_goals
    go_wp2
    go_ret
    exact ⟨rfl, below_drewN ((Below.refl _ w).alloc (Nat.le_refl _) _) _⟩
/-- What Free tells. -/
def frok (n : Nat) (a l : Int) : Bool := decide (0 ≤ a) && decide (a < n) && decide (1 ≤ l) && decide (l ≤ n - a)
set_option maxRecDepth 100000 in
set_option maxHeartbeats 2000000 in
theorem free_arg (b n : Nat) (f : Nat → Bool) (a l : Int) (w : World) (h : MIs w b n f) (hk : frok n a l = false) :
    Calls Try.prog 16 #[.pointer (some ⟨b, 0, none⟩), .agg #[.int .i64 a, .int .i64 l]] w fun e w' => e = .returned (.int .i64 1) ∧ Below w.heap.size w w' := by
  have hle := h.le
  have hA := fun w' h' => has_any b n f a w' h'
  have hx := h.alloc (.cells #[.int .i64 a, .int .i64 l] 41)
  have c0 := hx.c0
  have hy : MIs ((w.alloc (.cells #[.int .i64 a, .int .i64 l] 41)).drew) b n f := hx.drew
  cases hd : (decide (0 ≤ a) && decide (a < n))
  · simp only [hd] at hA
    go_enter Try.func16, Try.ntmps16
    go_wp2_with fail
    go_quiet ((go_at_call 30; refine Calls.quiet_of_same (hA _ (hx.keep rfl))))
    all_goals
      go_wp2
      go_ret
      exact ⟨rfl, below_drewN ((Below.refl _ w).alloc (Nat.le_refl _) _) _⟩
  · simp only [hd] at hA
    simp at hd
    obtain ⟨i, rfl⟩ := Int.eq_ofNat_of_zero_le hd.1
    have hin : i < n := by omega
    cases hl : decide (l < 1)
    · have hl2 : decide ((n : Int) - i < l) = true := by simp [frok] at hk hl ⊢; omega
      go_enter Try.func16, Try.ntmps16
      go_wp2_with fail
      go_quiet ((go_at_call 30; refine Calls.quiet_of_same (hA _ (hx.keep rfl))))
      all_goals
        go_wp2
        go_ret
        exact ⟨rfl, below_drewN ((Below.refl _ w).alloc (Nat.le_refl _) _) _⟩
    · go_enter Try.func16, Try.ntmps16
      go_wp2_with fail
      go_quiet ((go_at_call 30; refine Calls.quiet_of_same (hA _ (hx.keep rfl))))
      all_goals
        go_wp2
        go_ret
        exact ⟨rfl, below_drewN ((Below.refl _ w).alloc (Nat.le_refl _) _) _⟩
end Go.Proofs.Ytigoadfbccpmkaa
