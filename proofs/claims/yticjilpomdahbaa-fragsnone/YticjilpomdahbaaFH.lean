/-
  A head's bytes.
-/
import Derived.Test.YticjilpomdahbaaFR
namespace Go.Proofs.Yticjilpomdahbaa
open Go.RowKit
open M (ofL ofL_size ofL_of)
set_option linter.unusedVariables false

theorem row2p_up {w W : World} (x y : Value) (h : Below (w.heap.size + 1) (w.alloc (.cells #[x, y] 23)) W) : W.cell? ⟨w.heap.size, 0, none⟩ = some x ∧ W.cell? ⟨w.heap.size, 1, none⟩ = some y :=
  (row2 ((h.block _ (by omega)).trans (heap_alloc_last w _))).1
theorem hfrg : (ByteArray.mk #[72, 70, 82, 71]) = ofL [72, 70, 82, 71] := rfl
theorem nums_app (a b : Nat) (s : ByteArray) : ofL (K2.four (BitVec.ofNat 32 a)) ++ ofL (K2.four (BitVec.ofNat 32 b)) ++ ofL (K2.four (BitVec.ofNat 32 s.size)) ++ ofL (K2.four (K2.sum s.data.toList)) = ofL (Fr.nums a b s.data.toList) := by
  rw [M.ofL_app, M.ofL_app, M.ofL_app]
  unfold Fr.nums
  rw [len_data, List.append_assoc, List.append_assoc]
theorem hb_of (a b : Nat) (s : ByteArray) : ofL (K2.sealed (ofL (pad (ByteArray.mk #[72, 70, 82, 71] ++ ofL (Fr.nums a b s.data.toList)).data.toList 60)).data.toList) = Fr.hb a b s := by
  rw [hfrg, M.ofL_app, ofL_data, ofL_data]
  rfl
set_option maxRecDepth 100000 in
set_option maxHeartbeats 400000 in
theorem headOf_any (a b : Nat) (s : ByteArray) (ha : a < 2147483648) (hb : b < 8) (hs : s.size ≤ 512) (w : World) :
    Calls Try.prog 23 #[.agg #[.int .i64 a, .int .i64 b], .string s] w fun e w' => e = .returned (.string (Fr.hb a b s)) ∧ Below w.heap.size w w' := by
  have c1 := four_nat a (by omega)
  have c2 := four_nat b (by omega)
  have c3 := four_nat s.size (by omega)
  have c4 := fun W => sum_any s W (by unfold maxLen; omega)
  have c5 := four_any (K2.sum s.data.toList)
  have e1 := four_size (BitVec.ofNat 32 a)
  have e2 := four_size (BitVec.ofNat 32 b)
  have e3 := four_size (BitVec.ofNat 32 s.size)
  have e4 := four_size (K2.sum s.data.toList)
  have HN : Hid (_ = _) := nums_app a b s
  have HH : Hid (_ = _) := hb_of a b s
  have hNs : (ofL (Fr.nums a b s.data.toList)).size = 16 := by rw [ofL_size]; rfl
  have hlt : (K2.sum s.data.toList).toNat < 4294967296 := (K2.sum s.data.toList).isLt
  generalize (K2.sum s.data.toList).toNat = z at *
  generalize ofL (K2.four (K2.sum s.data.toList)) = D at *
  generalize ofL (K2.four (BitVec.ofNat 32 a)) = A at *
  generalize ofL (K2.four (BitVec.ofNat 32 b)) = B at *
  generalize ofL (K2.four (BitVec.ofNat 32 s.size)) = C at *
  generalize ofL (Fr.nums a b s.data.toList) = X at *
  have wa : IntKind.u32.wrap (a : Int) = a := by rw [IntKind.wrap_u32]; omega
  have wb : IntKind.u32.wrap (b : Int) = b := by rw [IntKind.wrap_u32]; omega
  have wn : IntKind.u32.wrap (s.size : Int) = s.size := by rw [IntKind.wrap_u32]; omega
  have ma : (a : Int) % 4294967296 = a := by omega
  have mb : (b : Int) % 4294967296 = b := by omega
  have mn : (s.size : Int) % 4294967296 = s.size := by omega
  obtain ⟨W1, hW1⟩ : ∃ W1, w.alloc (.cells #[.int .i64 a, .int .i64 b] 23) = W1 := ⟨_, rfl⟩
  have HC : Hid (∀ W, Below (w.heap.size + 1) W1 W → W.cell? ⟨w.heap.size, 0, none⟩ = some (.int .i64 a) ∧ W.cell? ⟨w.heap.size, 1, none⟩ = some (.int .i64 b)) := by
    intro W hW
    rw [← hW1] at hW
    exact row2p_up _ _ hW
  have HB1 : Hid (Below w.heap.size w W1) := by rw [← hW1]; exact bel1 w _
  have hs1 : W1.heap.size = w.heap.size + 1 := by rw [← hW1]; simp
  have BD : Below (w.heap.size + 1) W1 W1.drew := Below.drew (Below.refl _ _)
  have HW1 := Hid_of hW1
  clear hW1
  go_enter Try.func23, Try.ntmps23
  go_upto_region 1 with fail
  rw [HW1.out]
  go_wp2_with fail
  go_region_held3 (fun wq => wq.cell? ⟨w.heap.size, 0, none⟩ = some (.int .i64 a) ∧ wq.cell? ⟨w.heap.size, 1, none⟩ = some (.int .i64 b)) (first | exact HC.out _ (by assumption)) (first | (go_at_call 44; refine (c1 _).mono ?_; rintro e w2 ⟨rfl, hb2⟩; have B2 : Below (w.heap.size + 1) W1 w2 := BD.trans (hb2.mono (by simp; omega)); clear c1 BD hb2) | (go_at_call 44; refine (c2 _).mono ?_; rintro e w3 ⟨rfl, hb3⟩; have B3 : Below (w.heap.size + 1) W1 w3 := B2.trans (hb3.mono (by have := B2.size; omega)); clear c2 B2 hb3) | (go_at_call 44; refine (c3 _).mono ?_; rintro e w4 ⟨rfl, hb4⟩; have B4 : Below (w.heap.size + 1) W1 w4 := B3.trans (hb4.mono (by have := B3.size; omega)); clear c3 B3 hb4) | (go_at_call 45; refine (c4 _).mono ?_; rintro e w5 ⟨rfl, rfl⟩; clear c4) | (go_at_call 44; refine (c5 _).mono ?_; rintro e w6 ⟨rfl, hb6⟩; have B6 : Below (w.heap.size + 1) W1 w6 := B4.trans (hb6.mono (by have := B4.size; omega)); clear c5 B4 hb6))
  have HB6 := Hid_of B6
  clear B6
  rw [HN.out]
  obtain ⟨Y, hY⟩ : ∃ Y, ByteArray.mk #[72, 70, 82, 71] ++ X = Y := ⟨_, rfl⟩
  have hYs : Y.size = 20 := by rw [← hY, ByteArray.size_append, hNs]; rfl
  have c6 := fun W => pad_to Y 60 W (by omega) (by omega)
  rw [hY] at HH
  have HY := Hid_of hY
  have hPs : (ofL (pad Y.data.toList 60)).size = 60 := by rw [ofL_size]; exact Fr.pd_len _ _ (by rw [len_data]; omega)
  generalize ofL (pad Y.data.toList 60) = T at *
  have c7 := fun W => seal_any T W (by omega)
  rw [HH.out] at c7
  clear hY wa wb wn ma mb mn HC HN HH
  go_upto_region 3 with (go_at_call 19; rw [HY.out]; refine (c6 _).mono ?_; rintro e w7 ⟨rfl, hb7⟩; have HB7 := Hid_of (HB6.out.trans (hb7.mono (by have := HB6.out.size; omega))); clear c6 hb7 HB6)
  go_wp2_with fail
  refine (c7 _).mono ?_
  rintro e w8 ⟨rfl, hb8⟩
  have HB8 := Hid_of (HB7.out.trans (hb8.mono (by have := HB7.out.size; omega)))
  clear c7 hb8 HB7
  go_wp2
  go_ret
  exact ⟨rfl, HB1.out.trans (HB8.out.mono (by omega))⟩
end Go.Proofs.Yticjilpomdahbaa
