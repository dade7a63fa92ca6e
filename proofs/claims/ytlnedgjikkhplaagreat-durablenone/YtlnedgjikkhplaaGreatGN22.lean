/-
  What a place tells: the program's, in all cases.
-/
import Derived.Test.YtlnedgjikkhplaaGreatGN21
namespace Go.Proofs.YtlnedgjikkhplaaGreat.Ns
open Go.RowKit
open M (ofL ofL_size ofL_of)
set_option linter.unusedVariables false

theorem bel_row {W W' : World} {B : Nat} {o : Obj} (h : W.heap[B]? = some o) (hb : Below W.heap.size W W') : W'.heap[B]? = some o := (hb.block B (Array.getElem?_eq_some_iff.1 h).1).trans h
theorem row3f {w : World} {k : Nat} {v0 v1 v2 : Value} {t : TypeId} (h : w.heap[k]? = some (.cells #[v0, v1, v2] t (0, 0))) :
    (w.cell? ⟨k, 0, none⟩ = some v0 ∧ w.cell? ⟨k, 1, none⟩ = some v1 ∧ w.cell? ⟨k, 2, none⟩ = some v2) ∧ ∀ j, w.frozen? ⟨k, j, none⟩ = false :=
  ⟨row3 h, fun j => frozen_of_row w k j _ _ h⟩
/-- The result's box, and the head's. -/
structure Bx (w : World) (A : Nat) (B : Nat) (g n : Nat) (W : World) : Prop where
  a : W.heap[A]? = some (.cells #[.int .u32 0, .int .u32 0, .string { data := #[] }] 204 (0, 0))
  b : W.heap[B]? = some (.cells #[.int .u32 g, .int .u32 n] 202 (0, 0))
  bel : Below w.heap.size w W
theorem Bx.up {w W W' : World} {A B g n : Nat} (h : Bx w A B g n W) (hb : Below W.heap.size W W') : Bx w A B g n W' := ⟨bel_row h.a hb, bel_row h.b hb, bel_up h.bel hb (Nat.le_refl _)⟩
theorem st3_other {w : World} {A B j : Nat} {v0 v1 v2 : Value} (h : B ≠ A) : (st3 w A v0 v1 v2).cell? ⟨B, j, none⟩ = w.cell? ⟨B, j, none⟩ := by
  have e : (st3 w A v0 v1 v2).heap[B]? = w.heap[B]? := by
    unfold st3
    rw [heap_setCell_other _ ⟨A, 2, none⟩ B _ h, heap_setCell_other _ ⟨A, 1, none⟩ B _ h, heap_setCell_other _ ⟨A, 0, none⟩ B _ h]
  unfold World.cell?
  simp only [e]
set_option maxRecDepth 100000 in
set_option maxHeartbeats 2000000 in
theorem stateAt_1 (pl : Nat) (s T : ByteArray) (w : World) (c0 : ∀ W, Calls Tryz.prog 135 #[.string s] W fun e w' => e = .returned (.tuple #[.string T, .int .i64 4]) ∧ Below W.heap.size W w') :
    Calls Tryz.prog 131 #[.int .i64 pl, .string s] w fun e w' => e = .returned (.agg #[.int .u32 0, .int .u32 0, .string { data := #[] }]) ∧ Below w.heap.size w w' := by
  obtain ⟨W0, hW0⟩ : ∃ W0, w.alloc (.cells #[.int .u32 0, .int .u32 0, .string { data := #[] }] 204) = W0 := ⟨_, rfl⟩
  have HR0 : Hid (W0.heap[w.heap.size]? = some (.cells #[.int .u32 0, .int .u32 0, .string { data := #[] }] 204 (0, 0))) := by rw [← hW0]; exact heap_alloc_last w _
  have HB0 : Hid (Below w.heap.size w W0) := by rw [← hW0]; exact bel1 w _
  have HW0 := Hid_of hW0
  clear hW0
  go_enter Tryz.func131, Tryz.ntmps131
  go_upto_region 1 with fail
  rw [HW0.out]
  go_wp2_with fail
  refine (c0 _).mono ?_
  rintro e w1 ⟨rfl, hb1⟩
  have HR1 := Hid_of (bel_row HR0.out hb1)
  have HB1 := Hid_of (bel_up HB0.out hb1 (Nat.le_refl _))
  clear c0 hb1 HR0 HB0 HW0
  obtain ⟨⟨k0, k1, k2⟩, kf⟩ := row3f HR1.out
  have f0 := kf 0
  have f1 := kf 1
  have f2 := kf 2
  clear kf
  go_wp2
  refine bodyPost_ret (v := .agg #[.int .u32 0, .int .u32 0, .string { data := #[] }]) ?_ rfl ⟨rfl, below3 HB1.out (Nat.le_refl _)⟩
  exact results_cell_row f131_res _ _ w.heap.size 204 _ (0, 0) _ rfl (put3 _ _ _ HR1.out) Tryz.underlying204 rfl Tryz.size204
set_option maxRecDepth 100000 in
set_option maxHeartbeats 2000000 in
theorem stateAt_2 (pl : Nat) (s T : ByteArray) (w : World) (g n : Nat) (hg : g < 4294967296) (hn : n < 4294967296) (c0 : ∀ W, Calls Tryz.prog 135 #[.string s] W fun e w' => e = .returned (.tuple #[.string T, .int .i64 0]) ∧ Below W.heap.size W w') (c1 : ∀ W, Calls Tryz.prog 165 #[.string T] W fun e w' => e = .returned (.agg #[.int .u32 g, .int .u32 n]) ∧ Below W.heap.size W w') (h244 : 244 < n) :
    Calls Tryz.prog 131 #[.int .i64 pl, .string s] w fun e w' => e = .returned (.agg #[.int .u32 0, .int .u32 0, .string { data := #[] }]) ∧ Below w.heap.size w w' := by
  obtain ⟨W0, hW0⟩ : ∃ W0, w.alloc (.cells #[.int .u32 0, .int .u32 0, .string { data := #[] }] 204) = W0 := ⟨_, rfl⟩
  have HR0 : Hid (W0.heap[w.heap.size]? = some (.cells #[.int .u32 0, .int .u32 0, .string { data := #[] }] 204 (0, 0))) := by rw [← hW0]; exact heap_alloc_last w _
  have HB0 : Hid (Below w.heap.size w W0) := by rw [← hW0]; exact bel1 w _
  have HW0 := Hid_of hW0
  clear hW0
  have d1 : decide ((244 : Int) < (n : Int)) = true := decide_eq_true (by omega)
  go_enter Tryz.func131, Tryz.ntmps131
  go_upto_region 1 with fail
  rw [HW0.out]
  go_wp2_with fail
  refine (c0 _).mono ?_
  rintro e w1 ⟨rfl, hb1⟩
  have HR1 := Hid_of (bel_row HR0.out hb1)
  have HB1 := Hid_of (bel_up HB0.out hb1 (Nat.le_refl _))
  clear c0 hb1 HR0 HB0 HW0
  go_wp2_with fail
  refine (c1 _).mono ?_
  rintro e w2 ⟨rfl, hb2⟩
  have hr2 := bel_row HR1.out hb2
  have hb2' := bel_up HB1.out hb2 (Nat.le_refl _)
  obtain ⟨W2, hW2⟩ : ∃ W2, w2.alloc (.cells #[.int .u32 g, .int .u32 n] 202) = W2 := ⟨_, rfl⟩
  have hx : Bx w w.heap.size w2.heap.size g n W2 := by
    rw [← hW2]
    exact ⟨(Below.heap_alloc _ _ _ (Array.getElem?_eq_some_iff.1 hr2).1).trans hr2, heap_alloc_last w2 _, bel_up hb2' (bel1 w2 _) (Nat.le_refl _)⟩
  have HLT : Hid (w.heap.size < w2.heap.size) := (Array.getElem?_eq_some_iff.1 hr2).1
  have HW2 := Hid_of hW2
  have HX := Hid_of hx
  obtain ⟨⟨q0, q1⟩, _⟩ := row2 hx.b
  clear c1 hb2 hr2 hb2' hW2 HR1 HB1 hx
  go_upto_region 5 with fail
  rw [HW2.out]
  obtain ⟨⟨k0, k1, k2⟩, kf⟩ := row3f HX.out.a
  have f0 := kf 0
  have f1 := kf 1
  have f2 := kf 2
  clear kf
  go_wp2
  refine bodyPost_ret (v := .agg #[.int .u32 0, .int .u32 0, .string { data := #[] }]) ?_ rfl ⟨rfl, below3 HX.out.bel (Nat.le_refl _)⟩
  exact results_cell_row f131_res _ _ w.heap.size 204 _ (0, 0) _ rfl (put3 _ _ _ HX.out.a) Tryz.underlying204 rfl Tryz.size204
set_option maxRecDepth 100000 in
set_option maxHeartbeats 2000000 in
theorem stateAt_3 (pl : Nat) (s T : ByteArray) (w : World) (g n : Nat) (hg : g < 4294967296) (hn : n < 4294967296) (X : ByteArray) (hT : T.size = 252) (h244 : n ≤ 244) (c0 : ∀ W, Calls Tryz.prog 135 #[.string s] W fun e w' => e = .returned (.tuple #[.string T, .int .i64 0]) ∧ Below W.heap.size W w') (c1 : ∀ W, Calls Tryz.prog 165 #[.string T] W fun e w' => e = .returned (.agg #[.int .u32 g, .int .u32 n]) ∧ Below W.heap.size W w') (c2 : ∀ W, Calls Tryz.prog 122 #[.string (T.extract 8 (8 + n)), .int .i64 g] W fun e w' => e = .returned (.tuple #[.string X, .int .i64 1]) ∧ Below W.heap.size W w') :
    Calls Tryz.prog 131 #[.int .i64 pl, .string s] w fun e w' => e = .returned (.agg #[.int .u32 0, .int .u32 0, .string { data := #[] }]) ∧ Below w.heap.size w w' := by
  obtain ⟨W0, hW0⟩ : ∃ W0, w.alloc (.cells #[.int .u32 0, .int .u32 0, .string { data := #[] }] 204) = W0 := ⟨_, rfl⟩
  have HR0 : Hid (W0.heap[w.heap.size]? = some (.cells #[.int .u32 0, .int .u32 0, .string { data := #[] }] 204 (0, 0))) := by rw [← hW0]; exact heap_alloc_last w _
  have HB0 : Hid (Below w.heap.size w W0) := by rw [← hW0]; exact bel1 w _
  have HW0 := Hid_of hW0
  clear hW0
  have d1 : decide ((244 : Int) < (n : Int)) = false := decide_eq_false (by omega)
  have p8 : (8 : Int) ≤ 8 + (n : Int) := by omega
  have p9 : 8 + (n : Int) ≤ (T.size : Int) := by omega
  go_enter Tryz.func131, Tryz.ntmps131
  go_upto_region 1 with fail
  rw [HW0.out]
  go_wp2_with fail
  refine (c0 _).mono ?_
  rintro e w1 ⟨rfl, hb1⟩
  have HR1 := Hid_of (bel_row HR0.out hb1)
  have HB1 := Hid_of (bel_up HB0.out hb1 (Nat.le_refl _))
  clear c0 hb1 HR0 HB0 HW0
  go_wp2_with fail
  refine (c1 _).mono ?_
  rintro e w2 ⟨rfl, hb2⟩
  have hr2 := bel_row HR1.out hb2
  have hb2' := bel_up HB1.out hb2 (Nat.le_refl _)
  obtain ⟨W2, hW2⟩ : ∃ W2, w2.alloc (.cells #[.int .u32 g, .int .u32 n] 202) = W2 := ⟨_, rfl⟩
  have hx : Bx w w.heap.size w2.heap.size g n W2 := by
    rw [← hW2]
    exact ⟨(Below.heap_alloc _ _ _ (Array.getElem?_eq_some_iff.1 hr2).1).trans hr2, heap_alloc_last w2 _, bel_up hb2' (bel1 w2 _) (Nat.le_refl _)⟩
  have HLT : Hid (w.heap.size < w2.heap.size) := (Array.getElem?_eq_some_iff.1 hr2).1
  have HW2 := Hid_of hW2
  have HX := Hid_of hx
  obtain ⟨⟨q0, q1⟩, _⟩ := row2 hx.b
  clear c1 hb2 hr2 hb2' hW2 HR1 HB1 hx
  go_upto_region 5 with fail
  rw [HW2.out]
  go_wp2_with fail
  refine (c2 _).mono ?_
  rintro e w3 ⟨rfl, hb3⟩
  have HX3 := Hid_of (HX.out.up hb3)
  clear c2 hb3 HX HW2 q0 q1
  obtain ⟨⟨k0, k1, k2⟩, kf⟩ := row3f HX3.out.a
  have f0 := kf 0
  have f1 := kf 1
  have f2 := kf 2
  clear kf
  go_wp2
  refine bodyPost_ret (v := .agg #[.int .u32 0, .int .u32 0, .string { data := #[] }]) ?_ rfl ⟨rfl, below3 HX3.out.bel (Nat.le_refl _)⟩
  exact results_cell_row f131_res _ _ w.heap.size 204 _ (0, 0) _ rfl (put3 _ _ _ HX3.out.a) Tryz.underlying204 rfl Tryz.size204
set_option maxRecDepth 100000 in
set_option maxHeartbeats 2000000 in
theorem stateAt_4 (pl : Nat) (s T : ByteArray) (w : World) (g n : Nat) (hg : g < 4294967296) (hn : n < 4294967296) (X : ByteArray) (hT : T.size = 252) (h244 : n ≤ 244) (q : Nat) (c0 : ∀ W, Calls Tryz.prog 135 #[.string s] W fun e w' => e = .returned (.tuple #[.string T, .int .i64 0]) ∧ Below W.heap.size W w') (c1 : ∀ W, Calls Tryz.prog 165 #[.string T] W fun e w' => e = .returned (.agg #[.int .u32 g, .int .u32 n]) ∧ Below W.heap.size W w') (c2 : ∀ W, Calls Tryz.prog 122 #[.string (T.extract 8 (8 + n)), .int .i64 g] W fun e w' => e = .returned (.tuple #[.string X, .int .i64 0]) ∧ Below W.heap.size W w') (hne : (X.toList == s.toList) = false) :
    Calls Tryz.prog 131 #[.int .i64 pl, .string s] w fun e w' => e = .returned (.agg #[.int .u32 0, .int .u32 0, .string { data := #[] }]) ∧ Below w.heap.size w w' := by
  obtain ⟨W0, hW0⟩ : ∃ W0, w.alloc (.cells #[.int .u32 0, .int .u32 0, .string { data := #[] }] 204) = W0 := ⟨_, rfl⟩
  have HR0 : Hid (W0.heap[w.heap.size]? = some (.cells #[.int .u32 0, .int .u32 0, .string { data := #[] }] 204 (0, 0))) := by rw [← hW0]; exact heap_alloc_last w _
  have HB0 : Hid (Below w.heap.size w W0) := by rw [← hW0]; exact bel1 w _
  have HW0 := Hid_of hW0
  clear hW0
  have d1 : decide ((244 : Int) < (n : Int)) = false := decide_eq_false (by omega)
  have p8 : (8 : Int) ≤ 8 + (n : Int) := by omega
  have p9 : 8 + (n : Int) ≤ (T.size : Int) := by omega
  go_enter Tryz.func131, Tryz.ntmps131
  go_upto_region 1 with fail
  rw [HW0.out]
  go_wp2_with fail
  refine (c0 _).mono ?_
  rintro e w1 ⟨rfl, hb1⟩
  have HR1 := Hid_of (bel_row HR0.out hb1)
  have HB1 := Hid_of (bel_up HB0.out hb1 (Nat.le_refl _))
  clear c0 hb1 HR0 HB0 HW0
  go_wp2_with fail
  refine (c1 _).mono ?_
  rintro e w2 ⟨rfl, hb2⟩
  have hr2 := bel_row HR1.out hb2
  have hb2' := bel_up HB1.out hb2 (Nat.le_refl _)
  obtain ⟨W2, hW2⟩ : ∃ W2, w2.alloc (.cells #[.int .u32 g, .int .u32 n] 202) = W2 := ⟨_, rfl⟩
  have hx : Bx w w.heap.size w2.heap.size g n W2 := by
    rw [← hW2]
    exact ⟨(Below.heap_alloc _ _ _ (Array.getElem?_eq_some_iff.1 hr2).1).trans hr2, heap_alloc_last w2 _, bel_up hb2' (bel1 w2 _) (Nat.le_refl _)⟩
  have HLT : Hid (w.heap.size < w2.heap.size) := (Array.getElem?_eq_some_iff.1 hr2).1
  have HW2 := Hid_of hW2
  have HX := Hid_of hx
  obtain ⟨⟨q0, q1⟩, _⟩ := row2 hx.b
  clear c1 hb2 hr2 hb2' hW2 HR1 HB1 hx
  go_upto_region 5 with fail
  rw [HW2.out]
  go_wp2_with fail
  refine (c2 _).mono ?_
  rintro e w3 ⟨rfl, hb3⟩
  have HX3 := Hid_of (HX.out.up hb3)
  clear c2 hb3 HX HW2 q0 q1
  obtain ⟨⟨k0, k1, k2⟩, kf⟩ := row3f HX3.out.a
  have f0 := kf 0
  have f1 := kf 1
  have f2 := kf 2
  clear kf
  go_wp2
  refine bodyPost_ret (v := .agg #[.int .u32 0, .int .u32 0, .string { data := #[] }]) ?_ rfl ⟨rfl, below3 HX3.out.bel (Nat.le_refl _)⟩
  exact results_cell_row f131_res _ _ w.heap.size 204 _ (0, 0) _ rfl (put3 _ _ _ HX3.out.a) Tryz.underlying204 rfl Tryz.size204
set_option maxRecDepth 100000 in
set_option maxHeartbeats 2000000 in
theorem stateAt_5 (pl : Nat) (s T : ByteArray) (w : World) (g n : Nat) (hg : g < 4294967296) (hn : n < 4294967296) (X : ByteArray) (hT : T.size = 252) (h244 : n ≤ 244) (q : Nat) (c0 : ∀ W, Calls Tryz.prog 135 #[.string s] W fun e w' => e = .returned (.tuple #[.string T, .int .i64 0]) ∧ Below W.heap.size W w') (c1 : ∀ W, Calls Tryz.prog 165 #[.string T] W fun e w' => e = .returned (.agg #[.int .u32 g, .int .u32 n]) ∧ Below W.heap.size W w') (c2 : ∀ W, Calls Tryz.prog 122 #[.string (T.extract 8 (8 + n)), .int .i64 g] W fun e w' => e = .returned (.tuple #[.string X, .int .i64 0]) ∧ Below W.heap.size W w') (c3 : ∀ W, Calls Tryz.prog 123 #[.int .i64 g] W fun e w' => e = .returned (.int .i64 q) ∧ w' = W) (he : X = s) (hq : ¬ q = pl) :
    Calls Tryz.prog 131 #[.int .i64 pl, .string s] w fun e w' => e = .returned (.agg #[.int .u32 0, .int .u32 0, .string { data := #[] }]) ∧ Below w.heap.size w w' := by
  subst he
  obtain ⟨W0, hW0⟩ : ∃ W0, w.alloc (.cells #[.int .u32 0, .int .u32 0, .string { data := #[] }] 204) = W0 := ⟨_, rfl⟩
  have HR0 : Hid (W0.heap[w.heap.size]? = some (.cells #[.int .u32 0, .int .u32 0, .string { data := #[] }] 204 (0, 0))) := by rw [← hW0]; exact heap_alloc_last w _
  have HB0 : Hid (Below w.heap.size w W0) := by rw [← hW0]; exact bel1 w _
  have HW0 := Hid_of hW0
  clear hW0
  have d1 : decide ((244 : Int) < (n : Int)) = false := decide_eq_false (by omega)
  have p8 : (8 : Int) ≤ 8 + (n : Int) := by omega
  have p9 : 8 + (n : Int) ≤ (T.size : Int) := by omega
  go_enter Tryz.func131, Tryz.ntmps131
  go_upto_region 1 with fail
  rw [HW0.out]
  go_wp2_with fail
  refine (c0 _).mono ?_
  rintro e w1 ⟨rfl, hb1⟩
  have HR1 := Hid_of (bel_row HR0.out hb1)
  have HB1 := Hid_of (bel_up HB0.out hb1 (Nat.le_refl _))
  clear c0 hb1 HR0 HB0 HW0
  go_wp2_with fail
  refine (c1 _).mono ?_
  rintro e w2 ⟨rfl, hb2⟩
  have hr2 := bel_row HR1.out hb2
  have hb2' := bel_up HB1.out hb2 (Nat.le_refl _)
  obtain ⟨W2, hW2⟩ : ∃ W2, w2.alloc (.cells #[.int .u32 g, .int .u32 n] 202) = W2 := ⟨_, rfl⟩
  have hx : Bx w w.heap.size w2.heap.size g n W2 := by
    rw [← hW2]
    exact ⟨(Below.heap_alloc _ _ _ (Array.getElem?_eq_some_iff.1 hr2).1).trans hr2, heap_alloc_last w2 _, bel_up hb2' (bel1 w2 _) (Nat.le_refl _)⟩
  have HLT : Hid (w.heap.size < w2.heap.size) := (Array.getElem?_eq_some_iff.1 hr2).1
  have HW2 := Hid_of hW2
  have HX := Hid_of hx
  obtain ⟨⟨q0, q1⟩, _⟩ := row2 hx.b
  clear c1 hb2 hr2 hb2' hW2 HR1 HB1 hx
  go_upto_region 5 with fail
  rw [HW2.out]
  go_wp2_with fail
  refine (c2 _).mono ?_
  rintro e w3 ⟨rfl, hb3⟩
  have HX3 := Hid_of (HX.out.up hb3)
  clear c2 hb3 HX HW2 q0 q1
  go_wp2_with fail
  refine (c3 _).mono ?_
  rintro e w4 ⟨rfl, rfl⟩
  clear c3
  have dq : ((q : Int) == (pl : Int)) = false := by rw [beq_eq_false_iff_ne]; omega
  obtain ⟨⟨k0, k1, k2⟩, kf⟩ := row3f HX3.out.a
  have f0 := kf 0
  have f1 := kf 1
  have f2 := kf 2
  clear kf
  go_wp2
  refine bodyPost_ret (v := .agg #[.int .u32 0, .int .u32 0, .string { data := #[] }]) ?_ rfl ⟨rfl, below3 HX3.out.bel (Nat.le_refl _)⟩
  exact results_cell_row f131_res _ _ w.heap.size 204 _ (0, 0) _ rfl (put3 _ _ _ HX3.out.a) Tryz.underlying204 rfl Tryz.size204
set_option maxRecDepth 100000 in
set_option maxHeartbeats 2000000 in
theorem stateAt_6 (pl : Nat) (s T : ByteArray) (w : World) (g n : Nat) (hg : g < 4294967296) (hn : n < 4294967296) (X : ByteArray) (hT : T.size = 252) (h244 : n ≤ 244) (q : Nat) (c0 : ∀ W, Calls Tryz.prog 135 #[.string s] W fun e w' => e = .returned (.tuple #[.string T, .int .i64 0]) ∧ Below W.heap.size W w') (c1 : ∀ W, Calls Tryz.prog 165 #[.string T] W fun e w' => e = .returned (.agg #[.int .u32 g, .int .u32 n]) ∧ Below W.heap.size W w') (c2 : ∀ W, Calls Tryz.prog 122 #[.string (T.extract 8 (8 + n)), .int .i64 g] W fun e w' => e = .returned (.tuple #[.string X, .int .i64 0]) ∧ Below W.heap.size W w') (c3 : ∀ W, Calls Tryz.prog 123 #[.int .i64 g] W fun e w' => e = .returned (.int .i64 q) ∧ w' = W) (c4 : ∀ W, Calls Tryz.prog 134 #[.string (T.extract 8 (8 + n))] W fun e w' => e = .returned (.string (T.extract 8 (8 + n))) ∧ Below W.heap.size W w') (he : X = s) (hq : q = pl) :
    Calls Tryz.prog 131 #[.int .i64 pl, .string s] w fun e w' => e = .returned (.agg #[.int .u32 g, .int .u32 n, .string (T.extract 8 (8 + n))]) ∧ Below w.heap.size w w' := by
  subst he
  subst hq
  obtain ⟨W0, hW0⟩ : ∃ W0, w.alloc (.cells #[.int .u32 0, .int .u32 0, .string { data := #[] }] 204) = W0 := ⟨_, rfl⟩
  have HR0 : Hid (W0.heap[w.heap.size]? = some (.cells #[.int .u32 0, .int .u32 0, .string { data := #[] }] 204 (0, 0))) := by rw [← hW0]; exact heap_alloc_last w _
  have HB0 : Hid (Below w.heap.size w W0) := by rw [← hW0]; exact bel1 w _
  have HW0 := Hid_of hW0
  clear hW0
  have d1 : decide ((244 : Int) < (n : Int)) = false := decide_eq_false (by omega)
  have p8 : (8 : Int) ≤ 8 + (n : Int) := by omega
  have p9 : 8 + (n : Int) ≤ (T.size : Int) := by omega
  go_enter Tryz.func131, Tryz.ntmps131
  go_upto_region 1 with fail
  rw [HW0.out]
  go_wp2_with fail
  refine (c0 _).mono ?_
  rintro e w1 ⟨rfl, hb1⟩
  have HR1 := Hid_of (bel_row HR0.out hb1)
  have HB1 := Hid_of (bel_up HB0.out hb1 (Nat.le_refl _))
  clear c0 hb1 HR0 HB0 HW0
  go_wp2_with fail
  refine (c1 _).mono ?_
  rintro e w2 ⟨rfl, hb2⟩
  have hr2 := bel_row HR1.out hb2
  have hb2' := bel_up HB1.out hb2 (Nat.le_refl _)
  obtain ⟨W2, hW2⟩ : ∃ W2, w2.alloc (.cells #[.int .u32 g, .int .u32 n] 202) = W2 := ⟨_, rfl⟩
  have hx : Bx w w.heap.size w2.heap.size g n W2 := by
    rw [← hW2]
    exact ⟨(Below.heap_alloc _ _ _ (Array.getElem?_eq_some_iff.1 hr2).1).trans hr2, heap_alloc_last w2 _, bel_up hb2' (bel1 w2 _) (Nat.le_refl _)⟩
  have HLT : Hid (w.heap.size < w2.heap.size) := (Array.getElem?_eq_some_iff.1 hr2).1
  have HW2 := Hid_of hW2
  have HX := Hid_of hx
  obtain ⟨⟨q0, q1⟩, _⟩ := row2 hx.b
  clear c1 hb2 hr2 hb2' hW2 HR1 HB1 hx
  go_upto_region 5 with fail
  rw [HW2.out]
  go_wp2_with fail
  refine (c2 _).mono ?_
  rintro e w3 ⟨rfl, hb3⟩
  have HX3 := Hid_of (HX.out.up hb3)
  clear c2 hb3 HX HW2 q0 q1
  go_wp2_with fail
  refine (c3 _).mono ?_
  rintro e w4 ⟨rfl, rfl⟩
  clear c3
  have HF : Hid (∀ W, Below w4.heap.size w4 W → Bx w w.heap.size w2.heap.size g n W) := fun W h => HX3.out.up h
  have BD : Below w4.heap.size w4 w4.drew := Below.drew (Below.refl _ _)
  have hP : ∀ W, Bx w w.heap.size w2.heap.size g n W → Below w.heap.size w W ∧ W.cell? ⟨w2.heap.size, 0, none⟩ = some (.int .u32 g) ∧ W.cell? ⟨w2.heap.size, 1, none⟩ = some (.int .u32 n) := fun W h => ⟨h.bel, (row2 h.b).1.1, (row2 h.b).1.2⟩
  have HP := Hid_of hP
  have HP0 := Hid_of (hP _ (HF.out _ BD))
  clear hP
  go_wp2_with fail
  go_region_held3 (fun wq => Below w.heap.size w wq ∧ wq.cell? ⟨w2.heap.size, 0, none⟩ = some (.int .u32 g) ∧ wq.cell? ⟨w2.heap.size, 1, none⟩ = some (.int .u32 n)) (first | exact HP0.out | exact HP5.out | exact ⟨below3 HP5.out.1 (Nat.le_refl _), (st3_other (by have := HLT.out; omega)).trans HP5.out.2.1, (st3_other (by have := HLT.out; omega)).trans HP5.out.2.2⟩) ((go_at_call 134; refine (c4 _).mono ?_; rintro e w5 ⟨rfl, hb5⟩; have hx5 := HF.out w5 (BD.trans (hb5.mono (Nat.le_refl _))); have HX5 := Hid_of hx5; have HP5 := Hid_of (HP.out _ hx5); obtain ⟨⟨k0, k1, k2⟩, kf⟩ := row3f hx5.a; have f0 := kf 0; have f1 := kf 1; have f2 := kf 2; clear kf hx5 hb5))
  all_goals
    clear c4 BD
    go_wp2
    refine bodyPost_ret (v := .agg #[.int .u32 g, .int .u32 n, .string (T.extract 8 (8 + n))]) ?_ rfl ⟨rfl, below3 HX5.out.bel (Nat.le_refl _)⟩
    exact results_cell_row f131_res _ _ w.heap.size 204 _ (0, 0) _ rfl (put3 _ _ _ HX5.out.a) Tryz.underlying204 rfl Tryz.size204
end Go.Proofs.YtlnedgjikkhplaaGreat.Ns
