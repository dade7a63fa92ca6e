/-
  Pieces by value: parts, and whether two are one.
-/
import Derived.Test.YtajgjkkggppbiaaA
import Derived.Deep.RegionHeld3
namespace Go.Proofs.Ytajgjkkggppbiaa
open Go.RowKit
set_option linter.unusedVariables false
open M (E)

theorem Hid_of {p : Prop} (h : p) : Hid p := h
theorem f31_res : Try.f31.results = #[.cell 6 32] := rfl
theorem Try.size32 : (Try.prog.info? 32).map (·.size) = some 4 := by kernel_rfl
theorem rowset4 {w : World} {k : Nat} {v0 v1 v2 v3 : Value} {t : TypeId} (h : w.heap[k]? = some (.cells #[v0, v1, v2, v3] t (0, 0))) (a b c d : Value) : ((((w.setCell ⟨k, 0, none⟩ a).setCell ⟨k, 1, none⟩ b).setCell ⟨k, 2, none⟩ c).setCell ⟨k, 3, none⟩ d).heap[k]? = some (.cells #[a, b, c, d] t (0, 0)) :=
  heap_setCell_same _ k 3 _ _ d (heap_setCell_same _ k 2 _ _ c (heap_setCell_same _ k 1 _ _ b (heap_setCell_same w k 0 _ _ a h)))
theorem bset4 {B k : Nat} {w0 w : World} (h : Below B w0 w) (hk : B ≤ k) (a b c d : Value) : Below B w0 ((((w.setCell ⟨k, 0, none⟩ a).setCell ⟨k, 1, none⟩ b).setCell ⟨k, 2, none⟩ c).setCell ⟨k, 3, none⟩ d) :=
  (((h.setCell hk _).setCell hk _).setCell hk _).setCell hk _
/-- A piece as a value. -/
def EV (e : E) : Value := .agg #[.int .i64 e.a, .int .i64 e.n, .int .i64 e.d, .int .i64 e.f]
def SmE (e : E) : Prop := Sm e.a ∧ Sm e.n ∧ Sm e.f

set_option maxHeartbeats 1000000 in
theorem part_any (a n d f lo hi : Int) (w : World) (ha : Sm a) (hn : Sm n) (hf : Sm f) (hl : Sm lo) (hh : Sm hi) :
    Calls Try.prog 31 #[.agg #[.int .i64 a, .int .i64 n, .int .i64 d, .int .i64 f], .int .i64 lo, .int .i64 hi] w fun x w' => x = .returned (EV (M.part ⟨a, n, d, f⟩ lo hi)) ∧ Below w.heap.size w w' := by
  obtain ⟨m, hm⟩ : ∃ m, max a lo = m := ⟨_, rfl⟩
  obtain ⟨q, hq⟩ : ∃ q, min (a + n) hi = q := ⟨_, rfl⟩
  have hw1 : IntKind.i64.wrap (q - m) = q - m := by rw [IntKind.wrap_i64]; unfold Sm at *; omega
  have hw2 : IntKind.i64.wrap (f + m) = f + m := by rw [IntKind.wrap_i64]; unfold Sm at *; omega
  have hw3 : IntKind.i64.wrap (f + m - a) = f + m - a := by rw [IntKind.wrap_i64]; unfold Sm at *; omega
  have HE : Hid (EV (M.part ⟨a, n, d, f⟩ lo hi) = .agg #[.int .i64 m, .int .i64 (q - m), .int .i64 d, .int .i64 (f + m - a)]) := by
    show _ = _
    unfold EV M.part
    simp only [hm, hq]
    rw [show f + (m - a) = f + m - a by omega]
  have HA : Hid (Sm a) := ha
  have HN : Hid (Sm n) := hn
  obtain ⟨W2, HW2⟩ : ∃ W2, Hid ((w.alloc (.cells #[.int .i64 a, .int .i64 n, .int .i64 d, .int .i64 f] 32)).alloc (.cells #[.int .i64 0, .int .i64 0, .int .i64 0, .int .i64 0] 32) = W2) := ⟨_, rfl⟩
  have HB2 : Hid (Below w.heap.size w W2) := by rw [← HW2.out]; exact (bel1 w _).alloc (by simp) _
  have HS : Hid (∀ w', Below W2.heap.size W2 w' → (w'.cell? ⟨w.heap.size, 0, none⟩ = some (.int .i64 a) ∧ w'.cell? ⟨w.heap.size, 1, none⟩ = some (.int .i64 n) ∧ w'.cell? ⟨w.heap.size, 2, none⟩ = some (.int .i64 d) ∧ w'.cell? ⟨w.heap.size, 3, none⟩ = some (.int .i64 f)) ∧ w'.heap[w.heap.size + 1]? = some (.cells #[.int .i64 0, .int .i64 0, .int .i64 0, .int .i64 0] 32 (0, 0))) := by
    intro w' hb
    have h1 := hb.block w.heap.size (by rw [← HW2.out]; simp; omega)
    have h2 := hb.block (w.heap.size + 1) (by rw [← HW2.out]; simp)
    rw [← HW2.out] at h1 h2
    rw [heap_alloc2_old] at h1
    rw [heap_alloc2_new] at h2
    exact ⟨row4 h1, h2⟩
  obtain ⟨⟨c0, c1, c2, c3⟩, _⟩ := HS.out W2 (Below.refl _ _)
  clear ha hn hf hl hh
  go_enter Try.func31, Try.ntmps31
  go_wp2_with fail
  rw [HW2.out]
  go_region_held3 (fun wq => (wq.cell? ⟨w.heap.size, 0, none⟩ = some (.int .i64 a) ∧ wq.cell? ⟨w.heap.size, 1, none⟩ = some (.int .i64 n) ∧ wq.cell? ⟨w.heap.size, 2, none⟩ = some (.int .i64 d) ∧ wq.cell? ⟨w.heap.size, 3, none⟩ = some (.int .i64 f))) (first | exact (HS.out _ (Below.refl _ _)).1 | exact (HS.out _ (Below.drew (Below.refl _ _))).1 | exact (HS.out _ (by assumption)).1) (first
    | (go_at_call 27; refine (ending_any a n d f _ HA.out HN.out).mono ?_; rintro x w1 ⟨rfl, hb⟩; have B1 : Below W2.heap.size W2 w1 := Below.trans (Below.drew (Below.refl _ _)) hb; clear hb; obtain ⟨⟨d0, d1, d2, d3⟩, dr⟩ := HS.out w1 B1; obtain ⟨e0, e1, e2, e3⟩ := row4 dr; have f0 := frozen_of_row w1 _ 0 _ _ dr; have f1 := frozen_of_row w1 _ 1 _ _ dr; have f2 := frozen_of_row w1 _ 2 _ _ dr; have f3 := frozen_of_row w1 _ 3 _ _ dr))
  all_goals
    have HB3 : Hid (Below w.heap.size w w1) := bel_up HB2.out B1 (Nat.le_refl _)
    have HR := Hid_of (rowset4 dr (.int .i64 m) (.int .i64 (q - m)) (.int .i64 d) (.int .i64 (f + m - a)))
    have HB4 := Hid_of (bset4 HB3.out (show w.heap.size ≤ w.heap.size + 1 by omega) (.int .i64 m) (.int .i64 (q - m)) (.int .i64 d) (.int .i64 (f + m - a)))
    clear HS HB2 HW2 B1 c0 c1 c2 c3 dr HB3
    go_wp2
    rw [HE.out]
    refine bodyPost_ret (v := .agg #[.int .i64 m, .int .i64 (q - m), .int .i64 d, .int .i64 (f + m - a)]) ?_ rfl ⟨rfl, HB4.out⟩
    exact results_cell_row f31_res _ _ (w.heap.size + 1) 32 _ (0, 0) _ rfl HR.out Try.underlying32 rfl Try.size32
end Go.Proofs.Ytajgjkkggppbiaa
