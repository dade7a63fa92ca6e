/-
  The greatest of any, and the vote of the greatest ballot: the program and the document tell the same.
-/
import Derived.Test.YtkohbjpinoonmaaH
namespace Go.Proofs.Ytkohbjpinoonmaa
open Go.RowKit
set_option linter.unusedVariables false
open M (E V)

set_option maxRecDepth 100000 in
set_option maxHeartbeats 2000000 in
theorem picks_walk (a : Option Addr) (cap : Nat) (l : List E) (a' : Option Addr) (cap' : Nat) (m : List V) (w : World) (hl : l.length ≤ maxLen) (hat : AtL bl w a l) (hm : m.length ≤ maxLen) (hat' : AtL vl w a' m) (hv : ∀ x ∈ m, x.v.size ≤ 140737488351232) :
    Calls Try.prog 4 #[.slice a l.length cap, .slice a' m.length cap'] w fun e w' => e = .returned (.bool true) ∧ Below w.heap.size w w' := by
  unfold maxLen at hl hm
  by_cases h0 : 1000 < l.length
  · have d0 : decide ((1000 : Int) < (l.length : Int)) = true := decide_eq_true (by omega)
    clear hat hat' hv h0
    go_enter Try.func4, Try.ntmps4
    go_wp2_with fail
    refine (awake_any _).mono ?_
    rintro e w2 ⟨rfl, hb2⟩
    go_wp2
    go_ret
    exact ⟨rfl, hb2⟩
  have d0 : decide ((1000 : Int) < (l.length : Int)) = false := decide_eq_false (by omega)
  by_cases h1 : 1000 < m.length
  · have d1 : decide ((1000 : Int) < (m.length : Int)) = true := decide_eq_true (by omega)
    clear hat hat' hv h0 h1
    go_enter Try.func4, Try.ntmps4
    go_wp2_with fail
    refine (awake_any _).mono ?_
    rintro e w2 ⟨rfl, hb2⟩
    go_wp2
    go_ret
    exact ⟨rfl, hb2⟩
  have d1 : decide ((1000 : Int) < (m.length : Int)) = false := decide_eq_false (by omega)
  have HP := Hid_of (fun W hb => pick_any a' cap' m W (hat'.keep hb) (by omega) hv)
  have HP1 := Hid_of (fun W hb => rpick_any a' cap' m W (hat'.keep hb) (by omega))
  have HX := Hid_of (fun W hb => max_any a cap l W (hat.keep hb) (by omega))
  have HX1 := Hid_of (fun W hb => rmax_any a cap l W (hat.keep hb) (by omega))
  generalize M.vx m m.length = z at *
  generalize decide (0 < m.length) = nz at *
  generalize M.bx l l.length = y at *
  have e1 : ∀ W, (binOp .eql 23 (.agg #[.int .i64 y.i, .int .i64 y.t]) (.agg #[.int .i64 y.i, .int .i64 y.t])).run Try.prog W = .ok (.bool true) W := fun W => by rw [eq23]; simp
  have e2 := eq33 z.s z.b.i z.b.t z.v
  clear hat hat' hv h0 h1
  go_enter Try.func4, Try.ntmps4
  go_wp2_with fail
  refine (HP.out w (Below.refl _ _)).mono ?_
  rintro e w1 ⟨rfl, hb1⟩
  have hr2 := heap_alloc_last w1 (.cells #[.int .i64 z.s, .int .i64 z.b.i, .int .i64 z.b.t, .string z.v] 33)
  obtain ⟨W2, HW2⟩ : ∃ W2, Hid (w1.alloc (.cells #[.int .i64 z.s, .int .i64 z.b.i, .int .i64 z.b.t, .string z.v] 33) = W2) := ⟨_, Hid_of rfl⟩
  have HB2 : Hid (Below w.heap.size w W2) := by rw [← HW2.out]; exact bel_up hb1 (bel1 w1 _) (Nat.le_refl _)
  rw [HW2.out] at hr2
  have HR2 := Hid_of hr2
  clear hb1 hr2 HP
  go_upto_region 4 with fail
  rw [HW2.out]
  clear HW2
  go_wp2_with fail
  refine (HP1.out W2 HB2.out).mono ?_
  rintro e w3 ⟨rfl, hb3⟩
  have hr4 := heap_alloc_last w3 (.cells #[.int .i64 z.s, .int .i64 z.b.i, .int .i64 z.b.t, .string z.v] 33)
  obtain ⟨W4, HW4⟩ : ∃ W4, Hid (w3.alloc (.cells #[.int .i64 z.s, .int .i64 z.b.i, .int .i64 z.b.t, .string z.v] 33) = W4) := ⟨_, Hid_of rfl⟩
  have HBW : Hid (Below w3.heap.size w3 W4) := by rw [← HW4.out]; exact bel1 w3 _
  have HB4 : Hid (Below w.heap.size w W4) := bel_up (bel_up HB2.out hb3 (Nat.le_refl _)) HBW.out (Nat.le_refl _)
  rw [HW4.out] at hr4
  have HR4 := Hid_of hr4
  have HQ4 := Hid_of (bel_row (bel_row HR2.out hb3) HBW.out)
  clear hb3 hr4 HP1 HR2 HB2 HBW
  go_upto_region 5 with fail
  rw [HW4.out]
  clear HW4
  go_wp2_with fail
  refine (HX.out W4 HB4.out).mono ?_
  rintro e w5 ⟨rfl, hb5⟩
  have HB5 := Hid_of (bel_up HB4.out hb5 (Nat.le_refl _))
  have HR5 := Hid_of (bel_row HR4.out hb5)
  have HQ5 := Hid_of (bel_row HQ4.out hb5)
  clear hb5 HB4 HR4 HQ4 HX
  go_wp2_with fail
  refine (HX1.out w5 HB5.out).mono ?_
  rintro e w6 ⟨rfl, hb6⟩
  have HB6 := Hid_of (bel_up HB5.out hb6 (Nat.le_refl _))
  obtain ⟨⟨x0, x1, x2, x3⟩, -⟩ := row4 (bel_row HR5.out hb6)
  obtain ⟨⟨y0, y1, y2, y3⟩, -⟩ := row4 (bel_row HQ5.out hb6)
  clear hb6 HB5 HR5 HQ5 HX1
  go_wp2_with fail
  refine (awake_any _).mono ?_
  rintro e w7 ⟨rfl, hb7⟩
  have HB7 := Hid_of (bel_up HB6.out hb7 (Nat.le_refl _))
  clear hb7 x0 x1 x2 x3 y0 y1 y2 y3
  go_wp2
  go_ret
  exact ⟨rfl, HB7.out⟩
end Go.Proofs.Ytkohbjpinoonmaa
