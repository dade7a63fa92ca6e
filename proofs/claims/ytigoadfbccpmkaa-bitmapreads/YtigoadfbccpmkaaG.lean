/-
  Free of bits that the map has.
-/
import Derived.Test.YtigoadfbccpmkaaF
import Derived.Deep.Cut
import Derived.Deep.MidRow
import Derived.Deep.CutRange
import Derived.Deep.CutBlock
namespace Go.Proofs.Ytigoadfbccpmkaa
open Go.RowKit
set_option linter.unusedVariables false

set_option maxRecDepth 100000 in
set_option maxHeartbeats 20000000 in
theorem free_in (b n : Nat) (f : Nat → Bool) (i m : Nat) (w : World) (h : MIs w b n f) (hm : 1 ≤ m) (him : i + m ≤ n) :
    Calls Try.prog 16 #[.pointer (some ⟨b, 0, none⟩), .agg #[.int .i64 i, .int .i64 m]] w fun e w' => e = .returned (.int .i64 (if eqw (M.andf f (M.rowf i m)) (M.rowf i m) then 0 else 7)) ∧ MIs w' b n (if eqw (M.andf f (M.rowf i m)) (M.rowf i m) then M.notf f (M.rowf i m) else f) ∧ w.grownBy w' (some b) := by
  have hle := h.le
  have hx := h.alloc (.cells #[.int .i64 i, .int .i64 m] 41)
  have c0 := hx.c0
  have hA := fun w' h' => has_any b n f i w' h'
  rw [show (decide ((0 : Int) ≤ (i : Int)) && decide ((i : Int) < n)) = true by simp; omega] at hA
  have eq3 := fun w => equal64 (M.andf f (M.rowf i m)) (M.rowf i m) w
  generalize eqw (M.andf f (M.rowf i m)) (M.rowf i m) = q at *
  have d1 : decide ((m : Int) < 1) = false := by simp; omega
  have d2 : decide ((n : Int) - i < m) = false := by simp; omega
  go_enter Try.func16, Try.ntmps16
  go_wp2_with fail
  go_quiet ((go_at_call 30; refine Calls.quiet_of_same (hA _ (hx.keep rfl))))
  go_wp2_with fail
  refine (row_any i m (by omega) _).mono ?_
  rintro e w1 ⟨rfl, hb1⟩
  have h1 := (MIs.keep (w' := ((w.alloc (.cells #[.int .i64 i, .int .i64 m] 41)).drewN nq)) hx rfl).below hb1
  have st1 := store64_new w1 (M.rowf i m)
  have h2 := (h1.alloc (.cells (WA (M.rowf i m)) 64)).drew
  have ld2 := h2.ld
  have gv2 := load64_row ((w1.alloc (.cells (WA (M.rowf i m)) 64)).drew) w1.heap.size (M.rowf i m) (0, 0) (heap_alloc_last w1 _)
  have B1 : Below w.heap.size w w1 := ⟨hb1.os, hb1.tape, hb1.output, by have := hb1.size; simp at this; omega, fun k hk => (hb1.block k (by simp; omega)).trans (Below.heap_alloc w _ k hk)⟩
  go_upto_region 4 with fail
  go_cut [40] from 33 to 40 (fun s wx => s = .bool (!q) ∧ MIs wx b n f ∧ Below w.heap.size w wx ∧ wx.heap[w1.heap.size]? = some (.cells (WA (M.rowf i m)) 64 (0, 0)))
  case first =>
    clear st1 c0 hA hx h1 d1 d2
    go_region_with ((go_at_call 35; refine (both_any f (M.rowf i m) _).mono ?_; rintro e w3 ⟨rfl, hb3⟩; have h3 := h2.below hb3; have r3 : w3.heap[w1.heap.size]? = some (.cells (WA (M.rowf i m)) 64 (0, 0)) := (hb3.block w1.heap.size (by simp)).trans (heap_alloc_last w1 _); have gv3 := load64_row w3 w1.heap.size (M.rowf i m) (0, 0) r3; have ld3 := h3.ld))
    all_goals
      have B3 : Below w.heap.size w w3 := ⟨hb3.os.trans B1.os, hb3.tape.trans B1.tape, hb3.output.trans B1.output, by have := hb3.size; have := B1.size; simp at *; omega, fun k hk => (hb3.block k (by have := B1.size; simp; omega)).trans ((Below.heap_alloc w1 _ k (by have := B1.size; omega)).trans (B1.block k hk))⟩
      go_wp2_with fail
      go_meet
      case rel => exact ⟨rfl, h3, B3, r3⟩
  case rest =>
    obtain ⟨rfl, h3, B3, r3⟩ := hcut
    have h4 := h3.drew
    have ld4 := h4.ld
    have gv4 := load64_row wc.drew w1.heap.size (M.rowf i m) (0, 0) r3
    clear ld2 gv2 st1 c0 hA hx h1 h2 eq3
    cases q
    · go_wp2
      go_ret
      exact ⟨rfl, h3, grown_below B3⟩
    · go_wp2_with fail
      go_region_with ((go_at_call 33; refine (without_any f (M.rowf i m) _).mono ?_; rintro e w5 ⟨rfl, hb5⟩; have h5 := h4.below hb5; have st5 := h5.st (M.notf f (M.rowf i m))))
      all_goals
        go_wp2
        go_ret
        exact ⟨rfl, h5.set _ (notf_off h4.off), grown_trans (grown_below B3) (grown_trans (b := w5) ⟨hb5.os, hb5.tape, hb5.output, hb5.size, fun k hk _ => hb5.block k hk⟩ (grown_setRow w5 b _))⟩
end Go.Proofs.Ytigoadfbccpmkaa
