/-
  Proved: for any two texts and any list of texts the law BytesXors of the program returns true, and all arguments read as they did.
-/
import Derived.Test.YtnflpmaeekgmjaaL
namespace Go.Proofs.Ytnflpmaeekgmjaa
open Go.ChangeShapes Go.WideShapes Go.ChangeAt Go.RowKit
open Go.ChangeMaps (open_string shut_string)
set_option linter.unusedVariables false

theorem longest_two (a b : ByteArray) : longest [a, b] = max a.size b.size := by simp [longest]
theorem sum_two (a b : ByteArray) : sumL [a, b] = xorL a.data.toList b.data.toList := by
  rw [sumL_eq]
  show xorL (xorL [] a.data.toList) b.data.toList = _
  congr 1
  apply ext_getD
  · rw [xorL_length]; simp
  · intro i hi
    rw [xorL_getD]
    simp

set_option maxHeartbeats 1000000 in
theorem xors_walk (a b : ByteArray) (d : Option Addr) (len cap : Nat) (l : List ByteArray) (w : World) (ha : a.size ≤ 140737488351232) (hb : b.size ≤ 140737488351232) (hm : len ≤ 9223372036854775807) (hlen : len = l.length) (hc : Texts w d l) (hs : ∀ s ∈ l, s.size ≤ 140737488351232) :
    Calls Try.prog 3 #[.string a, .string b, .slice d len cap] w fun e w' => e = .returned (.bool true) ∧ Below w.heap.size w w' := by
  by_cases h1 : 40 < len
  · clear hlen
    go_enter Try.func3, Try.ntmps3
    go_wp2_with fail
    refine (awake_any _).mono ?_
    rintro e w1 ⟨rfl, hb⟩
    go_wp2
    go_ret
    exact ⟨rfl, hb⟩
  · have HL : Hid (len = l.length) := hlen
    have hll : l.length ≤ 281474976710656 := by omega
    have HX : Hid (sumL [a, b] = xorL a.data.toList b.data.toList) := sum_two a b
    have ha' : a.size ≤ maxLen := by unfold maxLen; omega
    have hb' : b.size ≤ maxLen := by unfold maxLen; omega
    clear hlen
    go_enter Try.func3, Try.ntmps3
    go_wp2_with fail
    refine (xor_any a b _ ha hb).mono ?_
    rintro e w1 ⟨rfl, hb1⟩
    go_wp2_with fail
    refine (refXor_any a b _ ha hb).mono ?_
    rintro e w2 ⟨rfl, hb2⟩
    rw [HX.out]
    generalize ofL (xorL a.data.toList b.data.toList) = x
    have B2 := hb1.trans (hb2.mono hb1.size)
    have hc2 := hc.keep B2
    go_wp2_with fail
    refine (sum_any d len cap l _ HL.out hll hc2 hs).mono ?_
    rintro e w3 ⟨rfl, hb3⟩
    have hc3 := hc2.keep hb3
    go_wp2_with fail
    refine (refSum_any d len cap l _ HL.out hll hc3 hs).mono ?_
    rintro e w4 ⟨rfl, hb4⟩
    generalize ofL (sumL l) = y
    have B4 := (B2.trans (hb3.mono B2.size)).trans (hb4.mono (Nat.le_trans B2.size hb3.size))
    clear hc hc2 hc3 hb1 hb2 B2 hb3 hb4
    go_wp2_with fail
    refine (same_any a b _ ha' hb').mono ?_
    rintro e w5 ⟨rfl, hb5⟩
    go_wp2_with fail
    refine (refSame_any a b _ ha' hb').mono ?_
    rintro e w6 ⟨rfl, hb6⟩
    generalize M.same a.data.toList b.data.toList = z
    have B6 := (B4.trans (hb5.mono B4.size)).trans (hb6.mono (Nat.le_trans B4.size hb5.size))
    clear B4 hb5 hb6
    go_wp2_with fail
    refine (zero_any a _ ha').mono ?_
    rintro e w7 ⟨rfl, rfl⟩
    go_wp2_with fail
    refine (refZero_any a _ ha').mono ?_
    rintro e w8 ⟨rfl, rfl⟩
    generalize M.zero a.data.toList = q
    go_wp2_with fail
    refine (awake_any _).mono ?_
    rintro e w9 ⟨rfl, hb9⟩
    go_wp2
    go_ret
    exact ⟨rfl, B6.trans (hb9.mono B6.size)⟩

set_option maxRecDepth 100000 in
theorem xors_lifted (os : Os) (started : os.Started) (H : Type) (enc : TypeId × Value → H) :
    ReturnsInHanded {} Try.checked os 3 .any (Rows.bytesXorsSpec.pre6 enc Try.prog Try.f3 Rows.bytesXorsRow.domain false) (Rows.bytesXorsSpec.post enc Try.prog Try.f3 false true false false) := by
  refine returnsInHanded_of_change_sized (C := Try.checked) own started (by kernel_rfl) Try.func3
    (ChangeSpec.witness6 (enc := enc) (C := Try.checked) false ⟨#[], #[.string ByteArray.empty, .string ByteArray.empty, .slice none 0 0], []⟩ 8 (by kernel_rfl) (by kernel_rfl) (by kernel_rfl) (by kernel_rfl)) ?_
  intro W base args ds gs before hval0 hW hcnd hsz0 _
  have hval : ∀ (j : Nat) t v, Try.f3.params[j]? = some t → args[j]? = some v → Value.okWide Try.prog W .any base t v := hval0
  have hsz : (DataW.weightsEach Try.prog (Try.f3.params.toList ++ Rows.bytesXorsSpec.plain.varTypes Try.prog) (ds ++ gs)).all (· ≤ reachBytes) = true := hsz0
  have hW' := hW
  obtain ⟨p, q, hA0, hV, rfl, hfz, hnd⟩ := hW
  have hA : DataW.TrodAll enc Try.prog W 0 (fun _ => true) true Try.f3.params.toList args.toList ds p := hA0
  rw [Try.params3] at hA hval hsz
  obtain ⟨v0, vs0, d0, ds0, p0, q0, hargs, rfl, rfl, h0, r0⟩ := trodAll_cons hA
  obtain ⟨v1, vs1, d1, ds1, p1, q1, rfl, rfl, rfl, h1, r1⟩ := trodAll_cons r0
  obtain ⟨v2, vs2, d2, ds2, p2, q2, rfl, rfl, rfl, h2, r2⟩ := trodAll_cons r1
  obtain ⟨rfl, rfl, rfl⟩ := trodAll_nil r2
  obtain rfl : args = #[v0, v1, v2] := by cases args; simp_all
  obtain ⟨rfl, rfl⟩ := trodVars_none hV
  obtain ⟨a0, rfl, rfl, rfl, w0⟩ := open_string Try.underlying9 (hval 0 9 v0 rfl rfl) h0
  obtain ⟨a1, rfl, rfl, rfl, w1⟩ := open_string Try.underlying9 (hval 1 9 v1 rfl rfl) h1
  obtain ⟨a2, len2, cap2, rfl⟩ := okWide_slice Try.underlying22 (hval 2 22 v2 rfl rfl)
  have k2 := h2
  have lt2 : ∀ x ∈ p2, x.block < W.heap.size := by obtain ⟨m, hm⟩ := k2; exact DataW.trod_lt m _ _ _ hm
  have z0 := sized_string hsz (j := 0) (t := 9) rfl rfl
  have z1 := sized_string hsz (j := 1) (t := 9) rfl rfl
  rw [len_data] at z0 z1
  obtain ⟨l, hlen, hm, htx, hsl⟩ : ∃ l : List ByteArray, len2 = l.length ∧ len2 ≤ 9223372036854775807 ∧ Texts W a2 l ∧ ∀ s ∈ l, s.size ≤ 140737488351232 := by
    obtain ⟨fuel, hf⟩ := h2
    rcases open_strings Try.underlying22 Try.underlying9 Try.cells9 hf with ⟨hcs, _⟩ | ⟨x, ln, c, ss, hcs, _, hl, hm, hz, hx, hcell, hws⟩
    · simp [Value.cells] at hcs
      obtain ⟨rfl, rfl, rfl⟩ := hcs
      exact ⟨[], rfl, by omega, fun j h => by simp at h, fun s h => by cases h⟩
    · simp [Value.cells] at hcs
      obtain ⟨rfl, rfl, rfl⟩ := hcs
      simp only [Prod.mk.injEq] at hx
      obtain ⟨rfl, rfl⟩ := hx
      refine ⟨ss.take len2, ?_, ?_, texts_came hcell, fun s h => sized_texts hsz (j := 2) rfl rfl s h⟩
      · rw [List.length_take, hz]; simp; omega
      · unfold maxLen at hm; omega
  clear hA0 hval0
  refine (xors_walk a0 a1 a2 len2 cap2 l W z0 z1 hm hlen htx hsl).mono fun e W' ⟨he, bel⟩ => ?_
  subst he
  exact ⟨_, rfl, _, _, _, [], _, [], hW', trodAll_mk1 (shut_bool Try.underlying4 _), (trodAll_cons_mk (shut_string Try.underlying9 w0) (trodAll_cons_mk (shut_string Try.underlying9 w1) (trodAll_cons_mk (Below.trod laidOut (by kernel_rfl) (of_decide_eq_true (by kernel_rfl)) k2 bel lt2) trodAll_mk0))), rfl, bel.frame _, fun h => by cases h⟩

theorem xors_holds : Rows.BytesXorsSaid :=
  OpenClaim.holds_of_wide 3 Try.f3 rfl rfl rfl rfl rfl rfl rfl ⟨rfl, rfl, rfl, rfl, rfl⟩ rfl rfl rfl rfl rfl (by kernel_rfl) Try.func3 (by kernel_rfl)
    (of_decide_eq_true (by kernel_rfl)) (by unfold Func.isWrapper; first | (rw [if_pos (by decide +kernel)]; kernel_rfl) | (rw [if_neg (by decide +kernel)]; exact ⟨rfl, rfl⟩))
    (fun os started H enc _ => xors_lifted os started H enc)
#print axioms xors_holds

end Go.Proofs.Ytnflpmaeekgmjaa
