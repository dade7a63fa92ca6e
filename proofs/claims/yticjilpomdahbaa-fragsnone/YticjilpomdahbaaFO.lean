/-
  What a slot's bytes tell.
-/
import Derived.Test.YticjilpomdahbaaFH
import Derived.Test.YticjilpomdahbaaC
import Derived.Laws.ResultCell
namespace Go.Proofs.Yticjilpomdahbaa
open Go.RowKit
open M (ofL ofL_size ofL_of)
set_option linter.unusedVariables false

theorem f20_res : Try.f17.results = #[.cell 2 50] := rfl
theorem Try.size50 : (Try.prog.info? 50).map (·.size) = some 4 := by kernel_rfl
/-- A slot's cells. -/
def SV : Fr.Sl → Array Value
  | none => #[.bool false, .int .i64 0, .int .i64 0, .int .i64 0]
  | some ((a, b), s) => #[.bool true, .int .i64 a, .int .i64 b, .int .i64 s.size]
theorem SV_some (a b : Nat) (s : ByteArray) (n : Nat) (h : s.size = n) : SV (some ((a, b), s)) = #[.bool true, .int .i64 a, .int .i64 b, .int .i64 n] := by subst h; rfl
def st4 (w : World) (B o : Nat) (v0 v1 v2 v3 : Value) : World := (((w.setCell ⟨B, o, none⟩ v0).setCell ⟨B, o + 1, none⟩ v1).setCell ⟨B, o + 2, none⟩ v2).setCell ⟨B, o + 3, none⟩ v3
def st40 (w : World) (B : Nat) (v0 v1 v2 v3 : Value) : World := (((w.setCell ⟨B, 0, none⟩ v0).setCell ⟨B, 1, none⟩ v1).setCell ⟨B, 2, none⟩ v2).setCell ⟨B, 3, none⟩ v3
theorem put40 {w : World} {B : Nat} {u0 u1 u2 u3 : Value} {t : TypeId} (v0 v1 v2 v3 : Value) (h : w.heap[B]? = some (.cells #[u0, u1, u2, u3] t (0, 0))) :
    (st40 w B v0 v1 v2 v3).heap[B]? = some (.cells #[v0, v1, v2, v3] t (0, 0)) :=
  heap_setCell_same _ B 3 _ _ _ (heap_setCell_same _ B 2 _ _ _ (heap_setCell_same _ B 1 _ _ _ (heap_setCell_same w B 0 _ _ _ h)))
theorem below40 {w0 w : World} {B' B : Nat} {v0 v1 v2 v3 : Value} (h : Below B' w0 w) (hB : B' ≤ B) : Below B' w0 (st40 w B v0 v1 v2 v3) := (((h.setCell hB _).setCell hB _).setCell hB _).setCell hB _
theorem bel_row {W W' : World} {B : Nat} {o : Obj} (h : W.heap[B]? = some o) (hb : Below W.heap.size W W') : W'.heap[B]? = some o := (hb.block B (Array.getElem?_eq_some_iff.1 h).1).trans h
theorem bd_of (t : ByteArray) (h : t.size = 576) (hn : Fr.nm t.data.toList 12 ≤ 512) : ofL (Fr.bd t.data.toList) = t.extract 64 (64 + Fr.nm t.data.toList 12) ∧ (t.extract 64 (64 + Fr.nm t.data.toList 12)).data.toList = Fr.bd t.data.toList ∧ (t.extract 64 (64 + Fr.nm t.data.toList 12)).size = Fr.nm t.data.toList 12 := by
  have e : (t.extract 64 (64 + Fr.nm t.data.toList 12)).data.toList = Fr.bd t.data.toList := by
    rw [extract_list _ _ _ (by omega), Nat.add_sub_cancel_left]
    rfl
  refine ⟨?_, e, ?_⟩
  · rw [← e, ofL_of]
  · rw [ByteArray.size_extract]; omega
theorem so_no (t : ByteArray) (h : Fr.mb t.data.toList = false) : Fr.so t.data.toList = none := by
  unfold Fr.so
  rw [h]; rfl
theorem so_head (t : ByteArray) (h : t.size = 576) (hm : Fr.mb t.data.toList = true) :
    Fr.nm t.data.toList 4 < 2147483648 ∧ Fr.nm t.data.toList 8 < 8 ∧ Fr.nm t.data.toList 12 ≤ 512 ∧
    Fr.so t.data.toList = bif decide (Fr.hb (Fr.nm t.data.toList 4) (Fr.nm t.data.toList 8) (t.extract 64 (64 + Fr.nm t.data.toList 12)) = t.extract 0 64) then some ((Fr.nm t.data.toList 4, Fr.nm t.data.toList 8), t.extract 64 (64 + Fr.nm t.data.toList 12)) else none := by
  have h0 := hm
  unfold Fr.mb at h0
  simp only [Bool.and_eq_true, decide_eq_true_eq] at h0
  obtain ⟨h1, h2, h3⟩ := h0
  obtain ⟨e1, e2, e3⟩ := bd_of t h h3
  refine ⟨by omega, h2, h3, ?_⟩
  unfold Fr.so
  rw [hm, Bool.true_and, e1]
  congr 1
  have key : Fr.hd (Fr.nm t.data.toList 4) (Fr.nm t.data.toList 8) (Fr.bd t.data.toList) = t.data.toList.take 64 ↔ Fr.hb (Fr.nm t.data.toList 4) (Fr.nm t.data.toList 8) (t.extract 64 (64 + Fr.nm t.data.toList 12)) = t.extract 0 64 := by
    unfold Fr.hb
    rw [e2]
    constructor
    · intro e
      rw [e, ← cut_list, ofL_of]
    · intro e
      have := congrArg (fun x : ByteArray => x.data.toList) e
      simp only [cut_list, ofL_data] at this
      exact this
  exact decide_eq_decide.2 key

set_option maxRecDepth 100000 in
set_option maxHeartbeats 400000 in
theorem slotOf_1 (t : ByteArray) (w : World) (a b n : Nat) (ha : a < 4294967296) (hb : b < 4294967296) (hn : n < 4294967296) (h : 2147483647 < a) (c1 : ∀ W, Calls Try.prog 37 #[.string t, .int .i64 4] W fun e w' => e = .returned (.int .u32 a) ∧ Below W.heap.size W w') (c2 : ∀ W, Calls Try.prog 37 #[.string t, .int .i64 8] W fun e w' => e = .returned (.int .u32 b) ∧ Below W.heap.size W w') (c3 : ∀ W, Calls Try.prog 37 #[.string t, .int .i64 12] W fun e w' => e = .returned (.int .u32 n) ∧ Below W.heap.size W w') :
    Calls Try.prog 17 #[.string t] w fun e w' => e = .returned (.agg #[.bool false, .int .i64 0, .int .i64 0, .int .i64 0]) ∧ Below w.heap.size w w' := by
  have d1 : decide ((2147483647 : Int) < (a : Int)) = true := decide_eq_true (by omega)
  obtain ⟨W0, hW0⟩ : ∃ W0, w.alloc (.cells #[.bool false, .int .i64 0, .int .i64 0, .int .i64 0] 50) = W0 := ⟨_, rfl⟩
  have HR0 : Hid (W0.heap[w.heap.size]? = some (.cells #[.bool false, .int .i64 0, .int .i64 0, .int .i64 0] 50 (0, 0))) := by rw [← hW0]; exact heap_alloc_last w _
  have HB0 : Hid (Below w.heap.size w W0) := by rw [← hW0]; exact bel1 w _
  have HW0 := Hid_of hW0
  clear hW0
  go_enter Try.func17, Try.ntmps17
  go_upto_region 1 with fail
  rw [HW0.out]
  go_wp2_with fail
  refine (c1 _).mono ?_
  rintro e w1 ⟨rfl, hb1⟩
  have HR1 := Hid_of (bel_row HR0.out hb1)
  have HB1 := Hid_of (bel_up HB0.out hb1 (Nat.le_refl _))
  clear c1 hb1 HR0 HB0 HW0
  go_wp2_with fail
  refine (c2 _).mono ?_
  rintro e w2 ⟨rfl, hb2⟩
  have HR2 := Hid_of (bel_row HR1.out hb2)
  have HB2 := Hid_of (bel_up HB1.out hb2 (Nat.le_refl _))
  clear c2 hb2 HR1 HB1
  go_wp2_with fail
  refine (c3 _).mono ?_
  rintro e w3 ⟨rfl, hb3⟩
  have HR3 := Hid_of (bel_row HR2.out hb3)
  have HB3 := Hid_of (bel_up HB2.out hb3 (Nat.le_refl _))
  clear c3 hb3 HR2 HB2
  obtain ⟨⟨k0, k1, k2, k3⟩, kf⟩ := row4 HR3.out
  have f0 := kf 0
  have f1 := kf 1
  have f2 := kf 2
  have f3 := kf 3
  clear kf
  go_wp2
  refine bodyPost_ret (v := .agg #[.bool false, .int .i64 0, .int .i64 0, .int .i64 0]) ?_ rfl ⟨rfl, below40 HB3.out (Nat.le_refl _)⟩
  exact results_cell_row f20_res _ _ w.heap.size 50 _ (0, 0) _ rfl (put40 _ _ _ _ HR3.out) Try.underlying50 rfl Try.size50

set_option maxRecDepth 100000 in
set_option maxHeartbeats 400000 in
theorem slotOf_2 (t : ByteArray) (w : World) (a b n : Nat) (ha : a < 4294967296) (hb : b < 4294967296) (hn : n < 4294967296) (h1 : a ≤ 2147483647) (h : 8 ≤ b) (c1 : ∀ W, Calls Try.prog 37 #[.string t, .int .i64 4] W fun e w' => e = .returned (.int .u32 a) ∧ Below W.heap.size W w') (c2 : ∀ W, Calls Try.prog 37 #[.string t, .int .i64 8] W fun e w' => e = .returned (.int .u32 b) ∧ Below W.heap.size W w') (c3 : ∀ W, Calls Try.prog 37 #[.string t, .int .i64 12] W fun e w' => e = .returned (.int .u32 n) ∧ Below W.heap.size W w') :
    Calls Try.prog 17 #[.string t] w fun e w' => e = .returned (.agg #[.bool false, .int .i64 0, .int .i64 0, .int .i64 0]) ∧ Below w.heap.size w w' := by
  have d1 : decide ((2147483647 : Int) < (a : Int)) = false := decide_eq_false (by omega)
  have d2 : decide ((8 : Int) ≤ (b : Int)) = true := decide_eq_true (by omega)
  obtain ⟨W0, hW0⟩ : ∃ W0, w.alloc (.cells #[.bool false, .int .i64 0, .int .i64 0, .int .i64 0] 50) = W0 := ⟨_, rfl⟩
  have HR0 : Hid (W0.heap[w.heap.size]? = some (.cells #[.bool false, .int .i64 0, .int .i64 0, .int .i64 0] 50 (0, 0))) := by rw [← hW0]; exact heap_alloc_last w _
  have HB0 : Hid (Below w.heap.size w W0) := by rw [← hW0]; exact bel1 w _
  have HW0 := Hid_of hW0
  clear hW0
  go_enter Try.func17, Try.ntmps17
  go_upto_region 1 with fail
  rw [HW0.out]
  go_wp2_with fail
  refine (c1 _).mono ?_
  rintro e w1 ⟨rfl, hb1⟩
  have HR1 := Hid_of (bel_row HR0.out hb1)
  have HB1 := Hid_of (bel_up HB0.out hb1 (Nat.le_refl _))
  clear c1 hb1 HR0 HB0 HW0
  go_wp2_with fail
  refine (c2 _).mono ?_
  rintro e w2 ⟨rfl, hb2⟩
  have HR2 := Hid_of (bel_row HR1.out hb2)
  have HB2 := Hid_of (bel_up HB1.out hb2 (Nat.le_refl _))
  clear c2 hb2 HR1 HB1
  go_wp2_with fail
  refine (c3 _).mono ?_
  rintro e w3 ⟨rfl, hb3⟩
  have HR3 := Hid_of (bel_row HR2.out hb3)
  have HB3 := Hid_of (bel_up HB2.out hb3 (Nat.le_refl _))
  clear c3 hb3 HR2 HB2
  obtain ⟨⟨k0, k1, k2, k3⟩, kf⟩ := row4 HR3.out
  have f0 := kf 0
  have f1 := kf 1
  have f2 := kf 2
  have f3 := kf 3
  clear kf
  go_wp2
  refine bodyPost_ret (v := .agg #[.bool false, .int .i64 0, .int .i64 0, .int .i64 0]) ?_ rfl ⟨rfl, below40 HB3.out (Nat.le_refl _)⟩
  exact results_cell_row f20_res _ _ w.heap.size 50 _ (0, 0) _ rfl (put40 _ _ _ _ HR3.out) Try.underlying50 rfl Try.size50

set_option maxRecDepth 100000 in
set_option maxHeartbeats 400000 in
theorem slotOf_3 (t : ByteArray) (w : World) (a b n : Nat) (ha : a < 4294967296) (hb : b < 4294967296) (hn : n < 4294967296) (h1 : a ≤ 2147483647) (h2 : b < 8) (h : 512 < n) (c1 : ∀ W, Calls Try.prog 37 #[.string t, .int .i64 4] W fun e w' => e = .returned (.int .u32 a) ∧ Below W.heap.size W w') (c2 : ∀ W, Calls Try.prog 37 #[.string t, .int .i64 8] W fun e w' => e = .returned (.int .u32 b) ∧ Below W.heap.size W w') (c3 : ∀ W, Calls Try.prog 37 #[.string t, .int .i64 12] W fun e w' => e = .returned (.int .u32 n) ∧ Below W.heap.size W w') :
    Calls Try.prog 17 #[.string t] w fun e w' => e = .returned (.agg #[.bool false, .int .i64 0, .int .i64 0, .int .i64 0]) ∧ Below w.heap.size w w' := by
  have d1 : decide ((2147483647 : Int) < (a : Int)) = false := decide_eq_false (by omega)
  have d2 : decide ((8 : Int) ≤ (b : Int)) = false := decide_eq_false (by omega)
  have d3 : decide ((512 : Int) < (n : Int)) = true := decide_eq_true (by omega)
  obtain ⟨W0, hW0⟩ : ∃ W0, w.alloc (.cells #[.bool false, .int .i64 0, .int .i64 0, .int .i64 0] 50) = W0 := ⟨_, rfl⟩
  have HR0 : Hid (W0.heap[w.heap.size]? = some (.cells #[.bool false, .int .i64 0, .int .i64 0, .int .i64 0] 50 (0, 0))) := by rw [← hW0]; exact heap_alloc_last w _
  have HB0 : Hid (Below w.heap.size w W0) := by rw [← hW0]; exact bel1 w _
  have HW0 := Hid_of hW0
  clear hW0
  go_enter Try.func17, Try.ntmps17
  go_upto_region 1 with fail
  rw [HW0.out]
  go_wp2_with fail
  refine (c1 _).mono ?_
  rintro e w1 ⟨rfl, hb1⟩
  have HR1 := Hid_of (bel_row HR0.out hb1)
  have HB1 := Hid_of (bel_up HB0.out hb1 (Nat.le_refl _))
  clear c1 hb1 HR0 HB0 HW0
  go_wp2_with fail
  refine (c2 _).mono ?_
  rintro e w2 ⟨rfl, hb2⟩
  have HR2 := Hid_of (bel_row HR1.out hb2)
  have HB2 := Hid_of (bel_up HB1.out hb2 (Nat.le_refl _))
  clear c2 hb2 HR1 HB1
  go_wp2_with fail
  refine (c3 _).mono ?_
  rintro e w3 ⟨rfl, hb3⟩
  have HR3 := Hid_of (bel_row HR2.out hb3)
  have HB3 := Hid_of (bel_up HB2.out hb3 (Nat.le_refl _))
  clear c3 hb3 HR2 HB2
  obtain ⟨⟨k0, k1, k2, k3⟩, kf⟩ := row4 HR3.out
  have f0 := kf 0
  have f1 := kf 1
  have f2 := kf 2
  have f3 := kf 3
  clear kf
  go_wp2
  refine bodyPost_ret (v := .agg #[.bool false, .int .i64 0, .int .i64 0, .int .i64 0]) ?_ rfl ⟨rfl, below40 HB3.out (Nat.le_refl _)⟩
  exact results_cell_row f20_res _ _ w.heap.size 50 _ (0, 0) _ rfl (put40 _ _ _ _ HR3.out) Try.underlying50 rfl Try.size50

set_option maxRecDepth 100000 in
set_option maxHeartbeats 400000 in
theorem slotOf_4 (t X : ByteArray) (w : World) (a b n : Nat) (ha : a < 4294967296) (hb : b < 4294967296) (hn : n < 4294967296) (h1 : a ≤ 2147483647) (h2 : b < 8) (h3 : n ≤ 512) (ht : 576 ≤ t.size) (hne : (X.toList == (t.extract 0 64).toList) = false) (hbs : (t.extract 64 (64 + n)).size = n) (c1 : ∀ W, Calls Try.prog 37 #[.string t, .int .i64 4] W fun e w' => e = .returned (.int .u32 a) ∧ Below W.heap.size W w') (c2 : ∀ W, Calls Try.prog 37 #[.string t, .int .i64 8] W fun e w' => e = .returned (.int .u32 b) ∧ Below W.heap.size W w') (c3 : ∀ W, Calls Try.prog 37 #[.string t, .int .i64 12] W fun e w' => e = .returned (.int .u32 n) ∧ Below W.heap.size W w') (c4 : ∀ W, Calls Try.prog 23 #[.agg #[.int .i64 a, .int .i64 b], .string (t.extract 64 (64 + n))] W fun e w' => e = .returned (.string X) ∧ Below W.heap.size W w') :
    Calls Try.prog 17 #[.string t] w fun e w' => e = .returned (.agg #[.bool false, .int .i64 0, .int .i64 0, .int .i64 0]) ∧ Below w.heap.size w w' := by
  have d1 : decide ((2147483647 : Int) < (a : Int)) = false := decide_eq_false (by omega)
  have d2 : decide ((8 : Int) ≤ (b : Int)) = false := decide_eq_false (by omega)
  have d3 : decide ((512 : Int) < (n : Int)) = false := decide_eq_false (by omega)
  have p1 : (64 : Int) ≤ 64 + (n : Int) := by omega
  have p2 : 64 + (n : Int) ≤ (t.size : Int) := by omega
  have p3 : (64 : Int) ≤ (t.size : Int) := by omega
  obtain ⟨W0, hW0⟩ : ∃ W0, w.alloc (.cells #[.bool false, .int .i64 0, .int .i64 0, .int .i64 0] 50) = W0 := ⟨_, rfl⟩
  have HR0 : Hid (W0.heap[w.heap.size]? = some (.cells #[.bool false, .int .i64 0, .int .i64 0, .int .i64 0] 50 (0, 0))) := by rw [← hW0]; exact heap_alloc_last w _
  have HB0 : Hid (Below w.heap.size w W0) := by rw [← hW0]; exact bel1 w _
  have HW0 := Hid_of hW0
  clear hW0
  go_enter Try.func17, Try.ntmps17
  go_upto_region 1 with fail
  rw [HW0.out]
  go_wp2_with fail
  refine (c1 _).mono ?_
  rintro e w1 ⟨rfl, hb1⟩
  have HR1 := Hid_of (bel_row HR0.out hb1)
  have HB1 := Hid_of (bel_up HB0.out hb1 (Nat.le_refl _))
  clear c1 hb1 HR0 HB0 HW0
  go_wp2_with fail
  refine (c2 _).mono ?_
  rintro e w2 ⟨rfl, hb2⟩
  have HR2 := Hid_of (bel_row HR1.out hb2)
  have HB2 := Hid_of (bel_up HB1.out hb2 (Nat.le_refl _))
  clear c2 hb2 HR1 HB1
  go_wp2_with fail
  refine (c3 _).mono ?_
  rintro e w3 ⟨rfl, hb3⟩
  have HR3 := Hid_of (bel_row HR2.out hb3)
  have HB3 := Hid_of (bel_up HB2.out hb3 (Nat.le_refl _))
  clear c3 hb3 HR2 HB2
  obtain ⟨W3, hW3⟩ : ∃ W3, w3.alloc (.cells #[.int .i64 a, .int .i64 b] 23) = W3 := ⟨_, rfl⟩
  have HX : Hid ((W3.heap[w.heap.size]? = some (.cells #[.bool false, .int .i64 0, .int .i64 0, .int .i64 0] 50 (0, 0)) ∧ W3.heap[w3.heap.size]? = some (.cells #[.int .i64 a, .int .i64 b] 23 (0, 0))) ∧ Below w.heap.size w W3) := by
    rw [← hW3]
    exact ⟨⟨bel_row HR3.out (bel1 w3 _), heap_alloc_last w3 _⟩, bel_up HB3.out (bel1 w3 _) (Nat.le_refl _)⟩
  have HW3 := Hid_of hW3
  clear hW3 HR3 HB3
  obtain ⟨⟨q0, q1⟩, _⟩ := row2 HX.out.1.2
  have qd0 : W3.drew.cell? ⟨w3.heap.size, 0, none⟩ = some (.int .i64 a) := q0
  have qd1 : W3.drew.cell? ⟨w3.heap.size, 1, none⟩ = some (.int .i64 b) := q1
  go_upto_region 5 with fail
  rw [HW3.out]
  go_wp2_with fail
  obtain ⟨BD, hBD⟩ : ∃ BD, t.extract 64 (64 + n) = BD := ⟨_, rfl⟩
  rw [hBD] at c4 hbs
  have HBD := Hid_of hBD
  clear hBD
  rw [HBD.out]
  go_region_held3 (fun wq => wq.cell? ⟨w3.heap.size, 0, none⟩ = some (.int .i64 a) ∧ wq.cell? ⟨w3.heap.size, 1, none⟩ = some (.int .i64 b)) (first | exact ⟨qd0, qd1⟩ | exact (row2 (bel_row HX.out.1.2 (by assumption))).1) (first | (go_at_call 23; refine (c4 _).mono ?_; rintro e w5 ⟨rfl, hb5⟩; have B5 : Below W3.heap.size W3 w5 := (Below.drew (Below.refl _ _)).trans hb5; have HR5 := Hid_of (bel_row HX.out.1.1 B5); have HQ5 := Hid_of (bel_row HX.out.1.2 B5); have HB5 := Hid_of (bel_up HX.out.2 B5 (Nat.le_refl _)); clear c4 hb5))
  clear B5
  obtain ⟨⟨k0, k1, k2, k3⟩, kf⟩ := row4 HR5.out
  have f0 := kf 0
  have f1 := kf 1
  have f2 := kf 2
  have f3 := kf 3
  clear kf
  go_wp2
  refine bodyPost_ret (v := .agg #[.bool false, .int .i64 0, .int .i64 0, .int .i64 0]) ?_ rfl ⟨rfl, below40 HB5.out (Nat.le_refl _)⟩
  exact results_cell_row f20_res _ _ w.heap.size 50 _ (0, 0) _ rfl (put40 _ _ _ _ HR5.out) Try.underlying50 rfl Try.size50

set_option maxRecDepth 100000 in
set_option maxHeartbeats 400000 in
theorem slotOf_5 (t X : ByteArray) (w : World) (a b n : Nat) (ha : a < 4294967296) (hb : b < 4294967296) (hn : n < 4294967296) (h1 : a ≤ 2147483647) (h2 : b < 8) (h3 : n ≤ 512) (ht : 576 ≤ t.size) (hne : (X.toList == (t.extract 0 64).toList) = true) (hbs : (t.extract 64 (64 + n)).size = n) (c1 : ∀ W, Calls Try.prog 37 #[.string t, .int .i64 4] W fun e w' => e = .returned (.int .u32 a) ∧ Below W.heap.size W w') (c2 : ∀ W, Calls Try.prog 37 #[.string t, .int .i64 8] W fun e w' => e = .returned (.int .u32 b) ∧ Below W.heap.size W w') (c3 : ∀ W, Calls Try.prog 37 #[.string t, .int .i64 12] W fun e w' => e = .returned (.int .u32 n) ∧ Below W.heap.size W w') (c4 : ∀ W, Calls Try.prog 23 #[.agg #[.int .i64 a, .int .i64 b], .string (t.extract 64 (64 + n))] W fun e w' => e = .returned (.string X) ∧ Below W.heap.size W w') :
    Calls Try.prog 17 #[.string t] w fun e w' => e = .returned (.agg #[.bool true, .int .i64 a, .int .i64 b, .int .i64 n]) ∧ Below w.heap.size w w' := by
  have d1 : decide ((2147483647 : Int) < (a : Int)) = false := decide_eq_false (by omega)
  have d2 : decide ((8 : Int) ≤ (b : Int)) = false := decide_eq_false (by omega)
  have d3 : decide ((512 : Int) < (n : Int)) = false := decide_eq_false (by omega)
  have p1 : (64 : Int) ≤ 64 + (n : Int) := by omega
  have p2 : 64 + (n : Int) ≤ (t.size : Int) := by omega
  have p3 : (64 : Int) ≤ (t.size : Int) := by omega
  obtain ⟨W0, hW0⟩ : ∃ W0, w.alloc (.cells #[.bool false, .int .i64 0, .int .i64 0, .int .i64 0] 50) = W0 := ⟨_, rfl⟩
  have HR0 : Hid (W0.heap[w.heap.size]? = some (.cells #[.bool false, .int .i64 0, .int .i64 0, .int .i64 0] 50 (0, 0))) := by rw [← hW0]; exact heap_alloc_last w _
  have HB0 : Hid (Below w.heap.size w W0) := by rw [← hW0]; exact bel1 w _
  have HW0 := Hid_of hW0
  clear hW0
  go_enter Try.func17, Try.ntmps17
  go_upto_region 1 with fail
  rw [HW0.out]
  go_wp2_with fail
  refine (c1 _).mono ?_
  rintro e w1 ⟨rfl, hb1⟩
  have HR1 := Hid_of (bel_row HR0.out hb1)
  have HB1 := Hid_of (bel_up HB0.out hb1 (Nat.le_refl _))
  clear c1 hb1 HR0 HB0 HW0
  go_wp2_with fail
  refine (c2 _).mono ?_
  rintro e w2 ⟨rfl, hb2⟩
  have HR2 := Hid_of (bel_row HR1.out hb2)
  have HB2 := Hid_of (bel_up HB1.out hb2 (Nat.le_refl _))
  clear c2 hb2 HR1 HB1
  go_wp2_with fail
  refine (c3 _).mono ?_
  rintro e w3 ⟨rfl, hb3⟩
  have HR3 := Hid_of (bel_row HR2.out hb3)
  have HB3 := Hid_of (bel_up HB2.out hb3 (Nat.le_refl _))
  clear c3 hb3 HR2 HB2
  obtain ⟨W3, hW3⟩ : ∃ W3, w3.alloc (.cells #[.int .i64 a, .int .i64 b] 23) = W3 := ⟨_, rfl⟩
  have HX : Hid ((W3.heap[w.heap.size]? = some (.cells #[.bool false, .int .i64 0, .int .i64 0, .int .i64 0] 50 (0, 0)) ∧ W3.heap[w3.heap.size]? = some (.cells #[.int .i64 a, .int .i64 b] 23 (0, 0))) ∧ Below w.heap.size w W3) := by
    rw [← hW3]
    exact ⟨⟨bel_row HR3.out (bel1 w3 _), heap_alloc_last w3 _⟩, bel_up HB3.out (bel1 w3 _) (Nat.le_refl _)⟩
  have HW3 := Hid_of hW3
  clear hW3 HR3 HB3
  obtain ⟨⟨q0, q1⟩, _⟩ := row2 HX.out.1.2
  have qd0 : W3.drew.cell? ⟨w3.heap.size, 0, none⟩ = some (.int .i64 a) := q0
  have qd1 : W3.drew.cell? ⟨w3.heap.size, 1, none⟩ = some (.int .i64 b) := q1
  go_upto_region 5 with fail
  rw [HW3.out]
  go_wp2_with fail
  obtain ⟨BD, hBD⟩ : ∃ BD, t.extract 64 (64 + n) = BD := ⟨_, rfl⟩
  rw [hBD] at c4 hbs
  have HBD := Hid_of hBD
  clear hBD
  rw [HBD.out]
  go_region_held3 (fun wq => wq.cell? ⟨w3.heap.size, 0, none⟩ = some (.int .i64 a) ∧ wq.cell? ⟨w3.heap.size, 1, none⟩ = some (.int .i64 b)) (first | exact ⟨qd0, qd1⟩ | exact (row2 (bel_row HX.out.1.2 (by assumption))).1) (first | (go_at_call 23; refine (c4 _).mono ?_; rintro e w5 ⟨rfl, hb5⟩; have B5 : Below W3.heap.size W3 w5 := (Below.drew (Below.refl _ _)).trans hb5; have HR5 := Hid_of (bel_row HX.out.1.1 B5); have HQ5 := Hid_of (bel_row HX.out.1.2 B5); have HB5 := Hid_of (bel_up HX.out.2 B5 (Nat.le_refl _)); clear c4 hb5))
  clear B5
  obtain ⟨⟨k0, k1, k2, k3⟩, kf⟩ := row4 HR5.out
  have f0 := kf 0
  have f1 := kf 1
  have f2 := kf 2
  have f3 := kf 3
  clear kf
  obtain ⟨⟨r0, r1⟩, _⟩ := row2 HQ5.out
  go_wp2
  refine bodyPost_ret (v := .agg #[.bool true, .int .i64 a, .int .i64 b, .int .i64 n]) ?_ rfl ⟨rfl, below40 HB5.out (Nat.le_refl _)⟩
  exact results_cell_row f20_res _ _ w.heap.size 50 _ (0, 0) _ rfl (put40 _ _ _ _ HR5.out) Try.underlying50 rfl Try.size50

theorem slotOf_any (t : ByteArray) (w : World) (ht : t.size = 576) : Calls Try.prog 17 #[.string t] w fun e w' => e = .returned (.agg (SV (Fr.so t.data.toList))) ∧ Below w.heap.size w w' := by
  have c1 := fun W => number_4 t W (by omega)
  have c2 := fun W => number_8 t W (by omega)
  have c3 := fun W => number_12 t W (by omega)
  have ha := Fr.nm_lt t.data.toList 4
  have hb := Fr.nm_lt t.data.toList 8
  have hn := Fr.nm_lt t.data.toList 12
  cases hm : Fr.mb t.data.toList with
  | false =>
    rw [so_no t hm]
    unfold Fr.mb at hm
    by_cases h1 : 2147483647 < Fr.nm t.data.toList 4
    · exact slotOf_1 t w _ _ _ ha hb hn h1 c1 c2 c3
    · by_cases h2 : 8 ≤ Fr.nm t.data.toList 8
      · exact slotOf_2 t w _ _ _ ha hb hn (by omega) h2 c1 c2 c3
      · by_cases h3 : 512 < Fr.nm t.data.toList 12
        · exact slotOf_3 t w _ _ _ ha hb hn (by omega) (by omega) h3 c1 c2 c3
        · simp at hm
          omega
  | true =>
    obtain ⟨h1, h2, h3, e⟩ := so_head t ht hm
    obtain ⟨_, _, e3⟩ := bd_of t ht h3
    rw [e]
    have c4 := fun W => headOf_any (Fr.nm t.data.toList 4) (Fr.nm t.data.toList 8) (t.extract 64 (64 + Fr.nm t.data.toList 12)) h1 h2 (by omega) W
    by_cases he : Fr.hb (Fr.nm t.data.toList 4) (Fr.nm t.data.toList 8) (t.extract 64 (64 + Fr.nm t.data.toList 12)) = t.extract 0 64
    · rw [decide_eq_true he, cond_true]
      have := slotOf_5 t _ w _ _ _ ha hb hn (by omega) h2 h3 (by omega) (text_eq he) e3 c1 c2 c3 c4
      rw [SV_some _ _ _ _ e3]
      exact this
    · rw [decide_eq_false he, cond_false]
      exact slotOf_4 t _ w _ _ _ ha hb hn (by omega) h2 h3 (by omega) (text_ne he) e3 c1 c2 c3 c4
end Go.Proofs.Yticjilpomdahbaa
