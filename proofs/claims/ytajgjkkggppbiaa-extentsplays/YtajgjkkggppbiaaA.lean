/-
  Pieces by value: the calls that ask and cut one.
-/
import Derived.Test.YtajgjkkggppbiaaRows
import Derived.Test.YtajgjkkggppbiaaM
import Derived.WalkKit
import Derived.WalkSpells
import Derived.WalkLawsBesides
import Derived.Deep.QuietTactic
import Derived.BigQuiet
import Derived.BigRegion
import Derived.RegionTactic
import Derived.Deep.RegionWith
import Derived.ProofKit
import Derived.Below
import Derived.Deep.WholeRow
import Derived.Laws.MakeOwn
import Derived.Laws.AppendOwn
import Derived.Laws.CopyRow
import Derived.Laws.CopyOwn
import Derived.Lib.Hide
import Derived.Lib.Walk
namespace Go.Proofs.Ytajgjkkggppbiaa
open Go.RowKit
set_option linter.unusedVariables false
open M (E)

theorem below_drewN {B : Nat} {a w : World} (h : Below B a w) (n : Nat) : Below B a (w.drewN n) := ⟨h.os, h.tape, h.output, h.size, h.block⟩
theorem bel1 (w : World) (o : Obj) : Below w.heap.size w (w.alloc o) := (Below.refl w.heap.size w).alloc (Nat.le_refl _) o
theorem bel_up {B : Nat} {w w1 w2 : World} (h : Below B w w1) (h2 : Below w1.heap.size w1 w2) (hB : B ≤ w.heap.size) : Below B w w2 := h.trans (h2.mono (Nat.le_trans hB h.size))
theorem row4 {w : World} {k : Nat} {v0 v1 v2 v3 : Value} {t : TypeId} (h : w.heap[k]? = some (.cells #[v0, v1, v2, v3] t (0, 0))) :
    w.cell? ⟨k, 0, none⟩ = some v0 ∧ w.cell? ⟨k, 1, none⟩ = some v1 ∧ w.cell? ⟨k, 2, none⟩ = some v2 ∧ w.cell? ⟨k, 3, none⟩ = some v3 :=
  ⟨by rw [cell_of_row w k 0 _ _ _ h]; rfl, by rw [cell_of_row w k 1 _ _ _ h]; rfl, by rw [cell_of_row w k 2 _ _ _ h]; rfl, by rw [cell_of_row w k 3 _ _ _ h]; rfl⟩
/-- A small number. -/
def Sm (x : Int) : Prop := -1099511627776 ≤ x ∧ x ≤ 1099511627776

set_option maxHeartbeats 400000 in
theorem ending_any (a n d f : Int) (w : World) (ha : Sm a) (hn : Sm n) :
    Calls Try.prog 27 #[.agg #[.int .i64 a, .int .i64 n, .int .i64 d, .int .i64 f]] w fun e w' => e = .returned (.int .i64 (a + n)) ∧ Below w.heap.size w w' := by
  have HB : Hid (Below w.heap.size w (w.alloc (.cells #[.int .i64 a, .int .i64 n, .int .i64 d, .int .i64 f] 32))) := bel1 w _
  have h1 : IntKind.i64.wrap (a + n) = a + n := by rw [IntKind.wrap_i64]; unfold Sm at ha hn; omega
  clear ha hn
  go_enter Try.func27, Try.ntmps27
  go_wp2
  go_ret
  exact ⟨rfl, HB.out⟩
set_option maxHeartbeats 400000 in
theorem beginning_any (a n d f : Int) (w : World) :
    Calls Try.prog 30 #[.agg #[.int .i64 a, .int .i64 n, .int .i64 d, .int .i64 f]] w fun e w' => e = .returned (.int .i64 a) ∧ Below w.heap.size w w' := by
  have HB : Hid (Below w.heap.size w (w.alloc (.cells #[.int .i64 a, .int .i64 n, .int .i64 d, .int .i64 f] 32))) := bel1 w _
  go_enter Try.func30, Try.ntmps30
  go_wp2
  go_ret
  exact ⟨rfl, HB.out⟩

/-- The bounds of those of n numbers from a on that are 0 to e - 1. -/
def wlo (a e : Int) : Int := max (min a e) 0
def whi (a n e : Int) : Int := min (max (min a e + max (if 0 < min a e then min n e else n) 0) 0) e
set_option maxHeartbeats 400000 in
theorem within_any (a n e : Int) (w : World) (he : 0 ≤ e) (he2 : Sm e) (ha : -9223372036854775808 ≤ a) (hn : n ≤ 9223372036854775807) :
    Calls Try.prog 28 #[.int .i64 a, .int .i64 n, .int .i64 e] w fun x w' => x = .returned (.tuple #[.int .i64 (wlo a e), .int .i64 (whi a n e)]) ∧ w' = w := by
  unfold wlo whi
  obtain ⟨m, hm⟩ : ∃ m, min a e = m := ⟨_, rfl⟩
  rw [hm]
  obtain ⟨x1, hx1⟩ : ∃ x, max m 0 = x := ⟨_, rfl⟩
  unfold Sm at he2
  by_cases h0 : 0 < m
  · rw [if_pos h0]
    have hd : decide (0 < m) = true := by simpa using h0
    obtain ⟨q, hq⟩ : ∃ q, min n e = q := ⟨_, rfl⟩
    rw [hq]
    obtain ⟨x2, hx2⟩ : ∃ x, max q 0 = x := ⟨_, rfl⟩
    have hw : IntKind.i64.wrap (m + x2) = m + x2 := by rw [IntKind.wrap_i64]; omega
    rw [hx1, hx2]
    obtain ⟨x3, hx3⟩ : ∃ x, max (m + x2) 0 = x := ⟨_, rfl⟩
    rw [hx3]
    obtain ⟨x4, hx4⟩ : ∃ x, min x3 e = x := ⟨_, rfl⟩
    rw [hx4]
    clear h0 ha hn he he2
    go_enter Try.func28, Try.ntmps28
    go_wp2
    go_ret2
    exact ⟨rfl, rfl⟩
  · rw [if_neg h0]
    have hd : decide (0 < m) = false := by simpa using h0
    obtain ⟨x2, hx2⟩ : ∃ x, max n 0 = x := ⟨_, rfl⟩
    have hw : IntKind.i64.wrap (m + x2) = m + x2 := by rw [IntKind.wrap_i64]; omega
    rw [hx1, hx2]
    obtain ⟨x3, hx3⟩ : ∃ x, max (m + x2) 0 = x := ⟨_, rfl⟩
    rw [hx3]
    obtain ⟨x4, hx4⟩ : ∃ x, min x3 e = x := ⟨_, rfl⟩
    rw [hx4]
    clear h0 ha hn he he2
    go_enter Try.func28, Try.ntmps28
    go_wp2
    go_ret2
    exact ⟨rfl, rfl⟩
end Go.Proofs.Ytajgjkkggppbiaa
