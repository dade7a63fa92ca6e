/-
  Proved: for any two texts the law BytesTwice of the program returns true, and both arguments read as they did.
-/
import Derived.Test.YtnflpmaeekgmjaaK
namespace Go.Proofs.Ytnflpmaeekgmjaa
open Go.ChangeShapes Go.WideShapes Go.ChangeAt Go.RowKit
open Go.ChangeMaps (open_string shut_string)
set_option linter.unusedVariables false

theorem longest_two (a b : ByteArray) : longest [a, b] = max a.size b.size := by simp [longest]
theorem sum_two (a b : ByteArray) : sumL [a, b] = xorL a.data.toList b.data.toList := by
  rw [sumL_eq]
  show xorL (xorL [] a.data.toList) b.data.toList = _
  congr 1
  apply ext_getD
  · rw [xorL_length]; simp
  · intro i hi
    rw [xorL_getD]
    simp
theorem xorL_comm (a b : List UInt8) : xorL a b = xorL b a := by
  unfold xorL
  rw [Nat.max_comm]
  congr 1
  funext i
  exact UInt8.xor_comm _ _
theorem xorL_self (a : List UInt8) : M.zero (xorL a a) = true := by
  simp [M.zero, xorL]
theorem xor_twice (a b : List UInt8) : xorL (xorL a b) b = pad a (max a.length b.length) := by
  apply ext_getD
  · rw [xorL_length, xorL_length, pad_length _ _ (Nat.le_max_left _ _)]; omega
  · intro i hi
    rw [xorL_getD, xorL_getD, UInt8.xor_assoc, UInt8.xor_self, UInt8.xor_zero]
    by_cases h : i < a.length
    · simp only [pad, List.getD_eq_getElem?_getD]
      rw [List.getElem?_append_left h]
    · simp only [pad, List.getD_eq_getElem?_getD]
      rw [List.getElem?_append_right (by omega), List.getElem?_eq_none (by omega), List.getElem?_replicate]
      split <;> rfl

theorem twice_x (a b : ByteArray) : ofL (sumL [ofL (sumL [a, b]), b]) = ofL (pad a.data.toList (max a.size b.size)) := by
  rw [sum_two, ofL_data, sum_two, xor_twice, len_data, len_data]
theorem padded_front (a : ByteArray) (n : Nat) : (ofL (pad a.data.toList n)).extract 0 a.size = a := by
  apply ByteArray.ext
  simp [ofL, pad, ByteArray.data_extract]
theorem padded_back (a : ByteArray) (n : Nat) (h : a.size ≤ n) : M.zero ((ofL (pad a.data.toList n)).extract a.size (ofL (pad a.data.toList n)).size).data.toList = true := by
  rw [extract_list _ _ _ (Nat.le_refl _), ofL_data, List.take_of_length_le (by rw [List.length_drop, ofL_size]; exact Nat.le_refl _)]
  unfold pad
  rw [List.drop_left' (len_data a)]
  simp [M.zero]

set_option maxHeartbeats 1000000 in
theorem twice_walk (a b : ByteArray) (w : World) (ha : a.size ≤ 140737488351232) (hb : b.size ≤ 140737488351232) :
    Calls Try.prog 6 #[.string a, .string b] w fun e w' => e = .returned (.bool true) ∧ Below w.heap.size w w' := by
  have hsz : (ofL (sumL [a, b])).size ≤ 140737488351232 := by rw [ofL_size, sumL_length, longest_two]; omega
  have HX : Hid (ofL (sumL [ofL (sumL [a, b]), b]) = ofL (pad a.data.toList (max a.size b.size))) := twice_x a b
  have HC : Hid (ofL (sumL [b, a]) = ofL (sumL [a, b])) := by show _ = _; rw [sum_two, sum_two, xorL_comm]
  have HZ : Hid (M.zero (ofL (sumL [a, a])).data.toList = true) := by show _ = _; rw [ofL_data, sum_two]; exact xorL_self _
  have hsa : (ofL (sumL [a, a])).size ≤ maxLen := by rw [ofL_size, sumL_length, longest_two]; unfold maxLen; omega
  go_enter Try.func6, Try.ntmps6
  go_wp2_with fail
  refine (xor_any a b _ ha hb).mono ?_
  rintro e w1 ⟨rfl, hb1⟩
  generalize hxy : ofL (sumL [a, b]) = xy at *
  have HXY : Hid (ofL (sumL [a, b]) = xy) := hxy
  clear hxy
  go_wp2_with fail
  refine (xor_any xy b _ hsz hb).mono ?_
  rintro e w2 ⟨rfl, hb2⟩
  rw [HX.out]
  have HF : Hid ((ofL (pad a.data.toList (max a.size b.size))).extract 0 a.size = a) := padded_front a _
  have HB : Hid (M.zero ((ofL (pad a.data.toList (max a.size b.size))).extract a.size (ofL (pad a.data.toList (max a.size b.size))).size).data.toList = true) := padded_back a _ (by omega)
  have hxs : (ofL (pad a.data.toList (max a.size b.size))).size = max a.size b.size := by rw [ofL_size, pad_length]; rw [len_data]; omega
  generalize ofL (pad a.data.toList (max a.size b.size)) = x at *
  have hx1 : a.size ≤ x.size := by omega
  have hx2 : x.size ≤ 140737488351232 := by omega
  have HXS : Hid (x.size = max a.size b.size) := hxs
  clear hxs HX
  have hfr : ((x.extract 0 a.size).toList == a.toList) = true := by rw [HF.out]; simp
  have hq : ((x.size : Int) == (b.size : Int)) = true ∧ a.size < b.size ∨ ((x.size : Int) == (a.size : Int)) = true ∧ ¬ a.size < b.size := by
    have := HXS.out
    by_cases hab : a.size < b.size
    · exact .inl ⟨by simp; omega, hab⟩
    · exact .inr ⟨by simp; omega, hab⟩
  rcases hq with ⟨hq, hab⟩ | ⟨hq, hab⟩
  all_goals
    go_wp2_with fail
    refine (zero_any _ _ (by rw [ByteArray.size_extract]; unfold maxLen; omega)).mono ?_
    rintro e w3 ⟨rfl, rfl⟩
    rw [HB.out]
    go_wp2_with fail
    refine (xor_any a a _ ha ha).mono ?_
    rintro e w4 ⟨rfl, hb4⟩
    go_wp2_with fail
    refine (zero_any _ _ hsa).mono ?_
    rintro e w5 ⟨rfl, rfl⟩
    rw [HZ.out]
    go_wp2_with fail
    refine (xor_any a b _ ha hb).mono ?_
    rintro e w6 ⟨rfl, hb6⟩
    go_wp2_with fail
    refine (xor_any b a _ hb ha).mono ?_
    rintro e w7 ⟨rfl, hb7⟩
    rw [HC.out, HXY.out]
    have B7 : Below w.heap.size w w7 := by
      have s1 := hb1.size
      have s2 := hb2.size
      have s4 := hb4.size
      have s6 := hb6.size
      exact (((hb1.trans (hb2.mono s1)).trans (hb4.mono (by omega))).trans (hb6.mono (by omega))).trans (hb7.mono (by omega))
    clear hb1 hb2 hb4 hb6 hb7
    go_wp2_with fail
    refine (awake_any _).mono ?_
    rintro e w8 ⟨rfl, hb8⟩
    go_wp2
    go_ret
    exact ⟨rfl, B7.trans (hb8.mono B7.size)⟩

set_option maxRecDepth 100000 in
theorem twice_lifted (os : Os) (started : os.Started) (H : Type) (enc : TypeId × Value → H) :
    ReturnsInHanded {} Try.checked os 6 .any (Rows.bytesTwiceSpec.pre6 enc Try.prog Try.f6 Rows.bytesTwiceRow.domain false) (Rows.bytesTwiceSpec.post enc Try.prog Try.f6 false true false false) := by
  refine returnsInHanded_of_change_sized (C := Try.checked) own started (by kernel_rfl) Try.func6
    (ChangeSpec.witness6 (enc := enc) (C := Try.checked) false ⟨#[], #[.string ByteArray.empty, .string ByteArray.empty], []⟩ 8 (by kernel_rfl) (by kernel_rfl) (by kernel_rfl) (by kernel_rfl)) ?_
  intro W base args ds gs before hval0 hW hcnd hsz0 _
  have hval : ∀ (j : Nat) t v, Try.f6.params[j]? = some t → args[j]? = some v → Value.okWide Try.prog W .any base t v := hval0
  have hsz : (DataW.weightsEach Try.prog (Try.f6.params.toList ++ Rows.bytesTwiceSpec.plain.varTypes Try.prog) (ds ++ gs)).all (· ≤ reachBytes) = true := hsz0
  have hW' := hW
  obtain ⟨p, q, hA0, hV, rfl, hfz, hnd⟩ := hW
  have hA : DataW.TrodAll enc Try.prog W 0 (fun _ => true) true Try.f6.params.toList args.toList ds p := hA0
  rw [Try.params6] at hA hval hsz
  obtain ⟨v0, vs0, d0, ds0, p0, q0, hargs, rfl, rfl, h0, r0⟩ := trodAll_cons hA
  obtain ⟨v1, vs1, d1, ds1, p1, q1, rfl, rfl, rfl, h1, r1⟩ := trodAll_cons r0
  obtain ⟨rfl, rfl, rfl⟩ := trodAll_nil r1
  obtain rfl : args = #[v0, v1] := by cases args; simp_all
  obtain ⟨rfl, rfl⟩ := trodVars_none hV
  obtain ⟨a0, rfl, rfl, rfl, w0⟩ := open_string Try.underlying9 (hval 0 9 v0 rfl rfl) h0
  obtain ⟨a1, rfl, rfl, rfl, w1⟩ := open_string Try.underlying9 (hval 1 9 v1 rfl rfl) h1
  have z0 := sized_string hsz (j := 0) (t := 9) rfl rfl
  have z1 := sized_string hsz (j := 1) (t := 9) rfl rfl
  rw [len_data] at z0 z1
  clear hA0 hval0
  refine (twice_walk a0 a1 W z0 z1).mono fun e W' ⟨he, bel⟩ => ?_
  subst he
  exact ⟨_, rfl, _, _, _, [], [], [], hW', trodAll_mk1 (shut_bool Try.underlying4 _), (trodAll_cons_mk (shut_string Try.underlying9 w0) (trodAll_cons_mk (shut_string Try.underlying9 w1) trodAll_mk0)), rfl, bel.frame _, fun h => by cases h⟩

theorem twice_holds : Rows.BytesTwiceSaid :=
  OpenClaim.holds_of_wide 6 Try.f6 rfl rfl rfl rfl rfl rfl rfl ⟨rfl, rfl, rfl, rfl, rfl⟩ rfl rfl rfl rfl rfl (by kernel_rfl) Try.func6 (by kernel_rfl)
    (of_decide_eq_true (by kernel_rfl)) (by unfold Func.isWrapper; first | (rw [if_pos (by decide +kernel)]; kernel_rfl) | (rw [if_neg (by decide +kernel)]; exact ⟨rfl, rfl⟩))
    (fun os started H enc _ => twice_lifted os started H enc)
#print axioms twice_holds

end Go.Proofs.Ytnflpmaeekgmjaa
