/-
  Proved: for every text the law SumsBack of the program returns true, and all arguments read as they did.
-/
import Derived.Test.YtimnhccfmehdoaaE
namespace Go.Proofs.Ytimnhccfmehdoaa
open Go.ChangeShapes Go.WideShapes Go.ChangeAt Go.RowKit
open Go.ChangeMaps (open_string shut_string)
set_option linter.unusedVariables false

theorem open_sealed (s : ByteArray) : openOut (ofL (M.sealed s.data.toList)) = (s, 0) := by
  unfold openOut
  rw [ofL_size, M.seal_len, len_data, ofL_data]
  have h : (M.sealed s.data.toList).take s.size = s.data.toList := by
    unfold M.sealed
    rw [← len_data s, List.take_left]
  rw [if_neg (by omega), Nat.add_sub_cancel, h, if_pos rfl, ofL_of]
theorem open_was (s : ByteArray) (h : (openOut s).2 = 0) : ofL (M.sealed (openOut s).1.data.toList) = s := by
  unfold openOut at h ⊢
  by_cases h1 : s.size < 4
  · rw [if_pos h1] at h
    cases h
  · rw [if_neg h1] at h ⊢
    by_cases h2 : M.sealed (s.data.toList.take (s.size - 4)) = s.data.toList
    · rw [if_pos h2]
      simp only [ofL_data]
      rw [h2, ofL_of]
    · rw [if_neg h2] at h
      cases h
theorem open_small (s : ByteArray) : (openOut s).1.size ≤ s.size := by
  unfold openOut
  split
  · exact Nat.zero_le _
  · split
    · show (ofL _).size ≤ _
      rw [ofL_size, List.length_take]
      omega
    · exact Nat.zero_le _

set_option maxHeartbeats 1000000 in
theorem back_walk (s : ByteArray) (w : World) (hs : s.size ≤ maxLen) :
    Calls Try.prog 7 #[.string s] w fun e w' => e = .returned (.bool true) ∧ Below w.heap.size w w' := by
  by_cases h : s.size > 131072
  · go_enter Try.func7, Try.ntmps7
    go_wp2_with fail
    refine (awake_any _).mono ?_
    rintro e w1 ⟨rfl, hb1⟩
    go_wp2
    go_ret
    exact ⟨rfl, hb1⟩
  · have h2 : s.size ≤ 140737488351232 := by omega
    have HO : Hid (_ = _) := open_sealed s
    have hsz : (ofL (M.sealed s.data.toList)).size ≤ 140737488351232 := by rw [ofL_size, M.seal_len, len_data]; omega
    have HW : Hid ((openOut s).2 = 0 → ofL (M.sealed (openOut s).1.data.toList) = s) := open_was s
    have HB : Hid ((openOut s).1.size ≤ s.size) := open_small s
    go_enter Try.func7, Try.ntmps7
    go_wp2_with fail
    refine (seal_any s _ h2).mono ?_
    rintro e w1 ⟨rfl, hb1⟩
    go_wp2_with fail
    refine (open_any (ofL (M.sealed s.data.toList)) _ hsz).mono ?_
    rintro e w2 ⟨rfl, hb2⟩
    rw [HO.out]
    go_wp2_with fail
    refine (open_any s _ h2).mono ?_
    rintro e w3 ⟨rfl, hb3⟩
    clear HO hsz
    generalize (openOut s).1 = x at HW HB ⊢
    generalize (openOut s).2 = y at HW ⊢
    have B3 : Below w.heap.size w w3 := by
      have s1 := hb1.size
      have s2 := hb2.size
      exact (hb1.trans (hb2.mono s1)).trans (hb3.mono (by omega))
    clear hb1 hb2 hb3
    by_cases hy : y = 0
    · have hyb : (y != 0) = false := by simp [hy]
      have HX : Hid (ofL (M.sealed x.data.toList) = s) := HW.out hy
      clear HW
      go_wp2_with fail
      refine (seal_any x _ (by have := HB.out; omega)).mono ?_
      rintro e w4 ⟨rfl, hb4⟩
      rw [HX.out]
      go_wp2_with fail
      refine (awake_any _).mono ?_
      rintro e w5 ⟨rfl, hb5⟩
      go_wp2
      go_ret
      have s3 := B3.size
      have s4 := hb4.size
      exact ⟨rfl, (B3.trans (hb4.mono s3)).trans (hb5.mono (by omega))⟩
    · have hyb : (y != 0) = true := by simp [hy]
      clear HW
      go_wp2_with fail
      refine (awake_any _).mono ?_
      rintro e w5 ⟨rfl, hb5⟩
      go_wp2
      go_ret
      exact ⟨rfl, B3.trans (hb5.mono B3.size)⟩

set_option maxRecDepth 100000 in
theorem back_lifted (os : Os) (started : os.Started) (H : Type) (enc : TypeId × Value → H) :
    ReturnsInHanded {} Try.checked os 7 .any (Rows.sumsBackSpec.pre6 enc Try.prog Try.f7 Rows.sumsBackRow.domain false) (Rows.sumsBackSpec.post enc Try.prog Try.f7 false true false false) := by
  refine returnsInHanded_of_change (C := Try.checked) own started (by kernel_rfl) Try.func7
    (ChangeSpec.witness6 (enc := enc) (C := Try.checked) false ⟨#[], #[.string ByteArray.empty], []⟩ 8 (by kernel_rfl) (by kernel_rfl) (by kernel_rfl) (by kernel_rfl)) ?_
  intro W base args ds gs before hval0 hW hcnd _
  have hval : ∀ (j : Nat) t v, Try.f7.params[j]? = some t → args[j]? = some v → Value.okWide Try.prog W .any base t v := hval0
  have hW' := hW
  obtain ⟨p, q, hA0, hV, rfl, hfz, hnd⟩ := hW
  have hA : DataW.TrodAll enc Try.prog W 0 (fun _ => true) true Try.f7.params.toList args.toList ds p := hA0
  rw [Try.params7] at hA hval
  obtain ⟨v0, vs0, d0, ds0, p0, q0, hargs, rfl, rfl, h0, r0⟩ := trodAll_cons hA
  obtain ⟨rfl, rfl, rfl⟩ := trodAll_nil r0
  obtain rfl : args = #[v0] := by cases args; simp_all
  obtain ⟨rfl, rfl⟩ := trodVars_none hV
  obtain ⟨a0, rfl, rfl, rfl, w0⟩ := open_string Try.underlying9 (hval 0 9 v0 rfl rfl) h0
  clear hA0 hval0
  refine (back_walk a0 W w0).mono fun e W' ⟨he, bel⟩ => ?_
  subst he
  exact ⟨_, rfl, _, _, _, [], [], [], hW', trodAll_mk1 (shut_bool Try.underlying4 _), (trodAll_cons_mk (shut_string Try.underlying9 w0) trodAll_mk0), rfl, bel.frame _, fun h => by cases h⟩

theorem back_holds : Rows.SumsBackSaid :=
  OpenClaim.holds_of_wide 7 Try.f7 rfl rfl rfl rfl rfl rfl rfl ⟨rfl, rfl, rfl, rfl, rfl⟩ rfl rfl rfl rfl rfl (by kernel_rfl) Try.func7 (by kernel_rfl)
    (of_decide_eq_true (by kernel_rfl)) (by unfold Func.isWrapper; first | (rw [if_pos (by decide +kernel)]; kernel_rfl) | (rw [if_neg (by decide +kernel)]; exact ⟨rfl, rfl⟩))
    (fun os started H enc _ => back_lifted os started H enc)
#print axioms back_holds

end Go.Proofs.Ytimnhccfmehdoaa
