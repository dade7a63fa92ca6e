/-
  Proved: for every text and every number the law BytesCuts of the program returns true, and both arguments read as they did.
-/
import Derived.Test.YtnflpmaeekgmjaaK
namespace Go.Proofs.Ytnflpmaeekgmjaa
open Go.ChangeShapes Go.WideShapes Go.ChangeAt Go.RowKit
open Go.ChangeMaps (open_string shut_string)
set_option linter.unusedVariables false

theorem pieces_bound (s : ByteArray) (n : Int) (hs : s.size ≤ 131072) : (cutOut s n).1.length ≤ 131072 := by
  unfold cutOut
  split
  · simp
  · rename_i h
    show (pieces s n.toNat).length ≤ _
    rw [pieces_length]
    exact Nat.le_trans (count_le s _ (by omega)) hs

set_option maxHeartbeats 1000000 in
theorem cuts_walk (s : ByteArray) (n : Int) (w : World) (hs : s.size ≤ maxLen) (hn : -9223372036854775808 ≤ n ∧ n ≤ 9223372036854775807) :
    Calls Try.prog 4 #[.string s, .int .i64 n] w fun e w' => e = .returned (.bool true) ∧ Below w.heap.size w w' := by
  have hs' := hs
  unfold maxLen at hs
  by_cases h1 : (131072 : Int) < (s.size : Int)
  · have hd : decide ((131072 : Int) < (s.size : Int)) = true := by simpa using h1
    go_enter Try.func4, Try.ntmps4
    go_wp2_with fail
    refine (awake_any _).mono ?_
    rintro e w1 ⟨rfl, hb⟩
    go_wp2
    go_ret
    exact ⟨rfl, hb⟩
  · have hd : decide ((131072 : Int) < (s.size : Int)) = false := by simpa using h1
    by_cases h2 : 0 ≤ n ∧ n < (s.size : Int) / 1000
    · obtain ⟨h3, h4⟩ := h2
      have hd2 : decide (0 ≤ n) = true := by simpa using h3
      have hd3 : decide (n < (s.size : Int) / 1000) = true := by simpa using h4
      go_enter Try.func4, Try.ntmps4
      go_wp2_with fail
      refine (awake_any _).mono ?_
      rintro e w1 ⟨rfl, hb⟩
      go_wp2
      go_ret
      exact ⟨rfl, hb⟩
    · have h5 : (decide (0 ≤ n) = true ∧ decide (n < (s.size : Int) / 1000) = false) ∨ decide (0 ≤ n) = false := by
        by_cases h : 0 ≤ n
        · exact .inl ⟨by simpa using h, decide_eq_false (fun h' => h2 ⟨h, h'⟩)⟩
        · exact .inr (decide_eq_false h)
      have hlen := pieces_bound s n (by omega)
      clear h2
      rcases h5 with ⟨hd2, hd3⟩ | hd2
      all_goals
        go_enter Try.func4, Try.ntmps4
        go_wp2_with fail
        refine (pad_any s n _ hs' hn).mono ?_
        rintro e w1 ⟨rfl, hb1⟩
        go_wp2_with fail
        refine (refPad_any s n _ hs' hn).mono ?_
        rintro e w2 ⟨rfl, hb2⟩
        generalize (padOut s n).1 = x
        generalize (padOut s n).2 = y
        go_wp2_with fail
        refine (cut_any s n _ (by omega) hn).mono ?_
        rintro e w3 ⟨a3, cap3, rfl, ht3, hb3⟩
        go_wp2_with fail
        refine (refCut_any s n _ (by omega) hn).mono ?_
        rintro e w4 ⟨a4, cap4, rfl, ht4, hb4⟩
        have ht3' := ht3.keep hb4
        clear ht3
        generalize (cutOut s n).1 = l at *
        generalize (cutOut s n).2 = z at *
        go_wp2_with fail
        refine (texts_any _ _ _ _ _ _ l _ rfl rfl (by omega) ht3' ht4).mono ?_
        rintro e w5 ⟨rfl, hb5⟩
        have B5 : Below w.heap.size w w5 := by
          have s1 := hb1.size
          have s2 := hb2.size
          have s3 := hb3.size
          have s4 := hb4.size
          exact (((hb1.trans (hb2.mono s1)).trans (hb3.mono (by omega))).trans (hb4.mono (by omega))).trans (hb5.mono (by omega))
        clear hb1 hb2 hb3 hb4 hb5 ht3' ht4
        go_wp2_with fail
        refine (awake_any _).mono ?_
        rintro e w6 ⟨rfl, hb6⟩
        go_wp2
        go_ret
        exact ⟨rfl, B5.trans (hb6.mono B5.size)⟩

set_option maxRecDepth 100000 in
theorem cuts_lifted (os : Os) (started : os.Started) (H : Type) (enc : TypeId × Value → H) :
    ReturnsInHanded {} Try.checked os 4 .any (Rows.bytesCutsSpec.pre6 enc Try.prog Try.f4 Rows.bytesCutsRow.domain false) (Rows.bytesCutsSpec.post enc Try.prog Try.f4 false true false false) := by
  refine returnsInHanded_of_change (C := Try.checked) own started (by kernel_rfl) Try.func4
    (ChangeSpec.witness6 (enc := enc) (C := Try.checked) false ⟨#[], #[.string ByteArray.empty, .int .i64 0], []⟩ 8 (by kernel_rfl) (by kernel_rfl) (by kernel_rfl) (by kernel_rfl)) ?_
  intro W base args ds gs before hval0 hW hcnd _
  have hval : ∀ (j : Nat) t v, Try.f4.params[j]? = some t → args[j]? = some v → Value.okWide Try.prog W .any base t v := hval0
  have hW' := hW
  obtain ⟨p, q, hA0, hV, rfl, hfz, hnd⟩ := hW
  have hA : DataW.TrodAll enc Try.prog W 0 (fun _ => true) true Try.f4.params.toList args.toList ds p := hA0
  rw [Try.params4] at hA hval
  obtain ⟨v0, vs0, d0, ds0, p0, q0, hargs, rfl, rfl, h0, r0⟩ := trodAll_cons hA
  obtain ⟨v1, vs1, d1, ds1, p1, q1, rfl, rfl, rfl, h1, r1⟩ := trodAll_cons r0
  obtain ⟨rfl, rfl, rfl⟩ := trodAll_nil r1
  obtain rfl : args = #[v0, v1] := by cases args; simp_all
  obtain ⟨rfl, rfl⟩ := trodVars_none hV
  obtain ⟨a0, rfl, rfl, rfl, w0⟩ := open_string Try.underlying9 (hval 0 9 v0 rfl rfl) h0
  obtain ⟨a1, rfl, rfl, rfl, w1⟩ := open_int Try.underlying3 (hval 1 3 v1 rfl rfl) h1
  clear hA0 hval0
  refine (cuts_walk a0 a1 W w0 (wf_i64 w1)).mono fun e W' ⟨he, bel⟩ => ?_
  subst he
  exact ⟨_, rfl, _, _, _, [], [], [], hW', trodAll_mk1 (shut_bool Try.underlying4 _), (trodAll_cons_mk (shut_string Try.underlying9 w0) (trodAll_cons_mk (shut_int Try.underlying3 w1) trodAll_mk0)), rfl, bel.frame _, fun h => by cases h⟩

theorem cuts_holds : Rows.BytesCutsSaid :=
  OpenClaim.holds_of_wide 4 Try.f4 rfl rfl rfl rfl rfl rfl rfl ⟨rfl, rfl, rfl, rfl, rfl⟩ rfl rfl rfl rfl rfl (by kernel_rfl) Try.func4 (by kernel_rfl)
    (of_decide_eq_true (by kernel_rfl)) (by unfold Func.isWrapper; first | (rw [if_pos (by decide +kernel)]; kernel_rfl) | (rw [if_neg (by decide +kernel)]; exact ⟨rfl, rfl⟩))
    (fun os started H enc _ => cuts_lifted os started H enc)
#print axioms cuts_holds

end Go.Proofs.Ytnflpmaeekgmjaa
