/-
  Which messages may be sent: the program's answer and the document's.
-/
import Derived.Test.YtjbodjjeenjbeaaFM
import Derived.Test.YtjbodjjeenjbeaaJ
import Derived.Test.YtjbodjjeenjbeaaP
import Derived.Deep.RegionHeld3
import Derived.Deep.CutRange
import Derived.Deep.WholeRow
namespace Go.Proofs.Ytjbodjjeenjbeaa
open Go.RowKit
set_option linter.unusedVariables false

theorem Hid_of {p : Prop} (h : p) : Hid p := h
theorem bel1 (w : World) (o : Obj) : Below w.heap.size w (w.alloc o) := (Below.refl w.heap.size w).alloc (Nat.le_refl _) o
theorem bel_up {B : Nat} {w w1 w2 : World} (h : Below B w w1) (h2 : Below w1.heap.size w1 w2) (hB : B ≤ w.heap.size) : Below B w w2 := h.trans (h2.mono (Nat.le_trans hB h.size))
theorem bel_row {W W' : World} {B : Nat} {o : Obj} (h : W.heap[B]? = some o) (hb : Below W.heap.size W W') : W'.heap[B]? = some o := (hb.block B (Array.getElem?_eq_some_iff.1 h).1).trans h
theorem row5 {w : World} {k : Nat} {v0 v1 v2 v3 v4 : Value} {t : TypeId} (h : w.heap[k]? = some (.cells #[v0, v1, v2, v3, v4] t (0, 0))) :
    (w.cell? ⟨k, 0, none⟩ = some v0 ∧ w.cell? ⟨k, 1, none⟩ = some v1 ∧ w.cell? ⟨k, 2, none⟩ = some v2 ∧ w.cell? ⟨k, 3, none⟩ = some v3 ∧ w.cell? ⟨k, 4, none⟩ = some v4) ∧ ∀ j, w.frozen? ⟨k, j, none⟩ = false :=
  ⟨⟨by rw [cell_of_row w k 0 _ _ _ h]; rfl, by rw [cell_of_row w k 1 _ _ _ h]; rfl, by rw [cell_of_row w k 2 _ _ _ h]; rfl, by rw [cell_of_row w k 3 _ _ _ h]; rfl, by rw [cell_of_row w k 4 _ _ _ h]; rfl⟩, fun j => frozen_of_row w k j _ _ h⟩

set_option maxHeartbeats 200000 in
theorem within_any (n a b : Int) (w : World) : Calls Try.prog 61 #[.int .i64 n, .int .i64 a, .int .i64 b] w fun e w' => e = .returned (.bool (Msg.inn n a b)) ∧ w' = w := by
  by_cases h : a ≤ n
  · have d1 : decide (a ≤ n) = true := decide_eq_true h
    have HN : Hid (Msg.inn n a b = decide (n ≤ b)) := Hid_of (show Msg.inn n a b = decide (n ≤ b) by unfold Msg.inn; rw [d1]; rfl)
    go_enter Try.func61, Try.ntmps61
    go_wp2
    go_ret
    rw [HN.out]
    exact ⟨rfl, rfl⟩
  · have d1 : decide (a ≤ n) = false := decide_eq_false h
    have HN : Hid (Msg.inn n a b = false) := Hid_of (show Msg.inn n a b = false by unfold Msg.inn; rw [d1]; rfl)
    clear h
    go_enter Try.func61, Try.ntmps61
    go_wp2
    go_ret
    rw [HN.out]
    exact ⟨rfl, rfl⟩
theorem within_is {n a b : Int} {v : Bool} (h : Msg.inn n a b = v) (w : World) : Calls Try.prog 61 #[.int .i64 n, .int .i64 a, .int .i64 b] w fun e w' => e = .returned (.bool v) ∧ w' = w := by
  rw [← h]; exact within_any n a b w

set_option maxRecDepth 100000 in
set_option maxHeartbeats 400000 in
theorem check_any (k f t i : Int) (b : ByteArray) (w : World) (hb : b.size ≤ maxLen) :
    Calls Try.prog 45 #[.agg #[.int .i64 k, .int .i64 f, .int .i64 t, .int .i64 i, .string b]] w fun e w' => e = .returned (.int .i64 (Msg.chk k f t i b.size)) ∧ Below w.heap.size w w' := by
  have HB := Hid_of (bel1 w (.cells #[.int .i64 k, .int .i64 f, .int .i64 t, .int .i64 i, .string b] 33))
  cases h1 : Msg.inn k 1 99 with
  | false =>
    have HC : Hid (Msg.chk k f t i b.size = 1) := Hid_of (show Msg.chk k f t i b.size = 1 by unfold Msg.chk Msg.fits; rw [h1]; rfl)
    have c1 := within_is h1
    clear h1
    go_enter Try.func45, Try.ntmps45
    go_wp2_with (go_at_call 61; refine (c1 _).mono ?_; rintro x w1 ⟨rfl, rfl⟩)
    go_ret
    rw [HC.out]
    exact ⟨rfl, HB.out⟩
  | true =>
  cases h2 : Msg.inn f 0 63 with
  | false =>
    have HC : Hid (Msg.chk k f t i b.size = 1) := Hid_of (show Msg.chk k f t i b.size = 1 by unfold Msg.chk Msg.fits; rw [h1, h2]; rfl)
    have c1 := within_is h1
    have c2 := within_is h2
    clear h1 h2
    go_enter Try.func45, Try.ntmps45
    go_wp2_with fail
    refine (c1 _).mono ?_
    rintro x w1 ⟨rfl, rfl⟩
    go_wp2_with fail
    refine (c2 _).mono ?_
    rintro x w1 ⟨rfl, rfl⟩
    go_wp2
    go_ret
    rw [HC.out]
    exact ⟨rfl, HB.out⟩
  | true =>
  cases h3 : Msg.inn t 0 63 with
  | false =>
    have HC : Hid (Msg.chk k f t i b.size = 1) := Hid_of (show Msg.chk k f t i b.size = 1 by unfold Msg.chk Msg.fits; rw [h1, h2, h3]; rfl)
    have c1 := within_is h1
    have c2 := within_is h2
    have c3 := within_is h3
    clear h1 h2 h3
    go_enter Try.func45, Try.ntmps45
    go_wp2_with fail
    refine (c1 _).mono ?_
    rintro x w1 ⟨rfl, rfl⟩
    go_wp2_with fail
    refine (c2 _).mono ?_
    rintro x w1 ⟨rfl, rfl⟩
    go_wp2_with fail
    refine (c3 _).mono ?_
    rintro x w1 ⟨rfl, rfl⟩
    go_wp2
    go_ret
    rw [HC.out]
    exact ⟨rfl, HB.out⟩
  | true =>
  cases h4 : Msg.inn i 0 2147483647 with
  | false =>
    have HC : Hid (Msg.chk k f t i b.size = 1) := Hid_of (show Msg.chk k f t i b.size = 1 by unfold Msg.chk Msg.fits; rw [h1, h2, h3, h4]; rfl)
    have c1 := within_is h1
    have c2 := within_is h2
    have c3 := within_is h3
    have c4 := within_is h4
    clear h1 h2 h3 h4
    go_enter Try.func45, Try.ntmps45
    go_wp2_with fail
    refine (c1 _).mono ?_
    rintro x w1 ⟨rfl, rfl⟩
    go_wp2_with fail
    refine (c2 _).mono ?_
    rintro x w1 ⟨rfl, rfl⟩
    go_wp2_with fail
    refine (c3 _).mono ?_
    rintro x w1 ⟨rfl, rfl⟩
    go_wp2_with fail
    refine (c4 _).mono ?_
    rintro x w1 ⟨rfl, rfl⟩
    go_wp2
    go_ret
    rw [HC.out]
    exact ⟨rfl, HB.out⟩
  | true =>
    have hf : Msg.fits k f t i = true := by unfold Msg.fits; rw [h1, h2, h3, h4]; rfl
    have c1 := within_is h1
    have c2 := within_is h2
    have c3 := within_is h3
    have c4 := within_is h4
    clear h1 h2 h3 h4
    by_cases h5 : 4096 < b.size
    · have HC : Hid (Msg.chk k f t i b.size = 2) := Hid_of (show Msg.chk k f t i b.size = 2 by unfold Msg.chk; rw [hf, decide_eq_true h5]; rfl)
      clear hf
      have d5 : decide ((4096 : Int) < (b.size : Int)) = true := by simp; omega
      go_enter Try.func45, Try.ntmps45
      go_wp2_with fail
      refine (c1 _).mono ?_
      rintro x w1 ⟨rfl, rfl⟩
      go_wp2_with fail
      refine (c2 _).mono ?_
      rintro x w1 ⟨rfl, rfl⟩
      go_wp2_with fail
      refine (c3 _).mono ?_
      rintro x w1 ⟨rfl, rfl⟩
      go_wp2_with fail
      refine (c4 _).mono ?_
      rintro x w1 ⟨rfl, rfl⟩
      go_wp2
      go_ret
      rw [HC.out]
      exact ⟨rfl, HB.out⟩
    · have HC : Hid (Msg.chk k f t i b.size = 0) := Hid_of (show Msg.chk k f t i b.size = 0 by unfold Msg.chk; rw [hf, decide_eq_false h5]; rfl)
      clear hf
      have d5 : decide ((4096 : Int) < (b.size : Int)) = false := by simp; omega
      go_enter Try.func45, Try.ntmps45
      go_wp2_with fail
      refine (c1 _).mono ?_
      rintro x w1 ⟨rfl, rfl⟩
      go_wp2_with fail
      refine (c2 _).mono ?_
      rintro x w1 ⟨rfl, rfl⟩
      go_wp2_with fail
      refine (c3 _).mono ?_
      rintro x w1 ⟨rfl, rfl⟩
      go_wp2_with fail
      refine (c4 _).mono ?_
      rintro x w1 ⟨rfl, rfl⟩
      go_wp2
      go_ret
      rw [HC.out]
      exact ⟨rfl, HB.out⟩
end Go.Proofs.Ytjbodjjeenjbeaa
