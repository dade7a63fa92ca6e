/-
  Proved: for every three numbers the law TimersAgain of the program returns true, and the arguments read as they did.
-/
import Derived.Test.YtcjibgpbfcedlaaS
import Derived.Test.YtcjibgpbfcedlaaT
import Derived.OpenShut
namespace Go.Proofs.Ytcjibgpbfcedlaa
open Go.ChangeShapes Go.WideShapes Go.ChangeAt Go.RowKit
set_option linter.unusedVariables false
open M (E)

theorem ag0 (k a : Int) (hk : 0 ≤ k) (ha : 0 ≤ a) (ha2 : a ≤ 1099511627776) : M.setL [] k a = [⟨k, a⟩] ∧ M.setE [] k a = 0 := by
  have hb : M.bad k a = false := by unfold M.bad; simp; omega
  have hs : M.stop [] k = [] := rfl
  obtain ⟨h1, h2⟩ := M.set_ok (l := []) hb (by simp [hs])
  rw [h1, h2, hs]
  exact ⟨rfl, rfl⟩
theorem ag1 (k a b : Int) (hk : 0 ≤ k) (hb : 0 ≤ b) (hb2 : b ≤ 1099511627776) : M.setL [⟨k, a⟩] k b = [⟨k, b⟩] ∧ M.setE [⟨k, a⟩] k b = 0 := by
  have hbd : M.bad k b = false := by unfold M.bad; simp; omega
  have hs : M.stop [⟨k, a⟩] k = [] := by rw [M.stop_cons_eq rfl]; rfl
  obtain ⟨h1, h2⟩ := M.set_ok (l := [⟨k, a⟩]) hbd (by simp [hs])
  rw [h1, h2, hs]
  exact ⟨rfl, rfl⟩
theorem ag2 (k b : Int) : M.dueI [⟨k, b⟩] (b - 1) = [] ∧ M.dueL [⟨k, b⟩] (b - 1) = [⟨k, b⟩] := M.due_later (by simp; omega)
theorem ag3 (k b : Int) : M.dueI [⟨k, b⟩] b = [k] ∧ M.dueL [⟨k, b⟩] b = [] := by
  obtain ⟨h1, h2⟩ := M.due_head (e := ⟨k, b⟩) (l := []) (now := b) (Int.le_refl b)
  exact ⟨h1, h2⟩
theorem ag4 (n : Int) : M.dueI [] n = [] ∧ M.dueL [] n = [] := ⟨rfl, rfl⟩
set_option maxRecDepth 100000 in
set_option maxHeartbeats 2000000 in
theorem again_no (k a b : Int) (w : World) (h : ¬ (0 ≤ k ∧ 0 ≤ a ∧ 0 ≤ b ∧ a ≤ 1099511627776 ∧ b ≤ 1099511627776)) : Calls Try.prog 5 #[.int .i64 k, .int .i64 a, .int .i64 b] w fun e w' => e = .returned (.bool true) ∧ Below w.heap.size w w' := by
  by_cases h1 : k < 0
  · clear h
    go_enter Try.func5, Try.ntmps5
    go_wp2_with fail
    refine (awake_any _).mono ?_
    rintro x w1 ⟨rfl, B1⟩
    go_wp2
    go_ret
    exact ⟨rfl, B1⟩
  · by_cases h2 : a < 0
    · clear h
      go_enter Try.func5, Try.ntmps5
      go_wp2_with fail
      refine (awake_any _).mono ?_
      rintro x w1 ⟨rfl, B1⟩
      go_wp2
      go_ret
      exact ⟨rfl, B1⟩
    · by_cases h3 : b < 0
      · clear h
        go_enter Try.func5, Try.ntmps5
        go_wp2_with fail
        refine (awake_any _).mono ?_
        rintro x w1 ⟨rfl, B1⟩
        go_wp2
        go_ret
        exact ⟨rfl, B1⟩
      · by_cases h4 : 1099511627776 < a
        · clear h
          go_enter Try.func5, Try.ntmps5
          go_wp2_with fail
          refine (awake_any _).mono ?_
          rintro x w1 ⟨rfl, B1⟩
          go_wp2
          go_ret
          exact ⟨rfl, B1⟩
        · have h5 : 1099511627776 < b := by omega
          clear h
          go_enter Try.func5, Try.ntmps5
          go_wp2_with fail
          refine (awake_any _).mono ?_
          rintro x w1 ⟨rfl, B1⟩
          go_wp2
          go_ret
          exact ⟨rfl, B1⟩
set_option maxRecDepth 100000 in
set_option maxHeartbeats 4000000 in
theorem again_yes (k a b : Int) (w : World) (hk : 0 ≤ k) (ha : 0 ≤ a) (hb : 0 ≤ b) (ha2 : a ≤ 1099511627776) (hb2 : b ≤ 1099511627776) : Calls Try.prog 5 #[.int .i64 k, .int .i64 a, .int .i64 b] w fun e w' => e = .returned (.bool true) ∧ Below w.heap.size w w' := by
  have h1 : ¬ k < 0 := by omega
  have h2 : ¬ a < 0 := by omega
  have h3 : ¬ b < 0 := by omega
  have h4 : ¬ 1099511627776 < a := by omega
  have h5 : ¬ 1099511627776 < b := by omega
  have hw : IntKind.i64.wrap (b - 1) = b - 1 := by rw [IntKind.wrap_i64]; omega
  have H0 := Hid_of (ag0 k a hk ha ha2)
  have H1 := Hid_of (ag1 k a b hk hb hb2)
  clear hk ha hb ha2 hb2
  go_enter Try.func5, Try.ntmps5
  go_wp2_with fail
  refine (newT w).mono ?_
  rintro x w1 ⟨t, rfl, S1⟩
  have hc := S1.set k a
  rw [H0.out.1, H0.out.2] at hc
  clear S1 H0
  go_wp2_with fail
  refine hc.mono ?_
  rintro x w2 ⟨v2, rfl, S2⟩
  have hc2 := S2.set k b
  rw [H1.out.1, H1.out.2] at hc2
  clear S2 H1 hc
  go_wp2_with fail
  refine hc2.mono ?_
  rintro x w3 ⟨v3, rfl, S3⟩
  have hl3 := S3.len
  have HS3 := Hid_of S3
  clear S3 hc2
  simp only [List.length_cons, List.length_nil] at hl3
  go_wp2_with fail
  refine hl3.mono ?_
  rintro x w4 ⟨rfl, rfl⟩
  have hd4 := HS3.out.due (b - 1)
  rw [(ag2 k b).1, (ag2 k b).2] at hd4
  clear hl3 HS3
  go_wp2_with fail
  refine hd4.mono ?_
  rintro x w5 ⟨a5, c5, v5, rfl, at5, S5, _⟩
  have hd5 := S5.due b
  rw [(ag3 k b).1, (ag3 k b).2] at hd5
  clear hd4 at5 S5
  simp only [List.length_nil]
  go_wp2_with fail
  refine hd5.mono ?_
  rintro x w6 ⟨a6, c6, v6, rfl, at6, S6, _⟩
  have HI : Hid (∀ W, Below w6.heap.size w6 W → W.heap[w6.heap.size]? = some (.cells #[.int .i64 k] 3 (0, 0)) → Calls Try.prog 14 #[.slice a6 1 c6, .slice (some ⟨w6.heap.size, 0, none⟩) 1 1] W fun e w' => e = .returned (.bool true) ∧ Below W.heap.size W w') := fun W hW h2 => ints_any a6 c6 _ 1 [k] W (by simp) (at6.keep hW) (row_i1 h2)
  have HS6 := Hid_of S6
  clear hd5 at6 S6
  simp only [List.length_cons, List.length_nil]
  go_wp2_with fail
  refine (HI.out _ (bel1 _ _) (heap_alloc_last _ _)).mono ?_
  rintro x w7 ⟨rfl, B7⟩
  have hd7 := ((HS6.out.keep (bel1 _ _)).keep B7).due 1099511627776
  rw [(ag4 _).1, (ag4 _).2] at hd7
  clear HS6 B7 HI
  go_wp2_with fail
  refine hd7.mono ?_
  rintro x w8 ⟨a8, c8, v8, rfl, _, S8, _⟩
  have HB8 := Hid_of S8.bel
  clear hd7 S8
  simp only [List.length_nil]
  go_wp2_with fail
  refine (awake_any _).mono ?_
  rintro x w9 ⟨rfl, B9⟩
  have HB := Hid_of (bel_up HB8.out B9 (Nat.le_refl _))
  clear B9
  go_wp2
  go_ret
  exact ⟨rfl, HB.out⟩
theorem again_walk (k a b : Int) (w : World) : Calls Try.prog 5 #[.int .i64 k, .int .i64 a, .int .i64 b] w fun e w' => e = .returned (.bool true) ∧ Below w.heap.size w w' := by
  by_cases h : 0 ≤ k ∧ 0 ≤ a ∧ 0 ≤ b ∧ a ≤ 1099511627776 ∧ b ≤ 1099511627776
  · exact again_yes k a b w h.1 h.2.1 h.2.2.1 h.2.2.2.1 h.2.2.2.2
  · exact again_no k a b w h
set_option maxRecDepth 100000 in
theorem again_lifted (os : Os) (started : os.Started) (H : Type) (enc : TypeId × Value → H) :
    ReturnsInHanded {} Try.checked os 5 .any (Rows.timersAgainSpec.pre6 enc Try.prog Try.f5 Rows.timersAgainRow.domain false) (Rows.timersAgainSpec.post enc Try.prog Try.f5 false true false false) := by
  refine returnsInHanded_of_change (C := Try.checked) own started (by kernel_rfl) Try.func5
    (ChangeSpec.witness6 (enc := enc) (C := Try.checked) false ⟨#[], #[.int .i64 0, .int .i64 0, .int .i64 0], []⟩ 8 (by kernel_rfl) (by kernel_rfl) (by kernel_rfl) (by kernel_rfl)) ?_
  intro W base args ds gs before hval0 hW hcnd _
  have hval : ∀ (j : Nat) t v, Try.f5.params[j]? = some t → args[j]? = some v → Value.okWide Try.prog W .any base t v := hval0
  have hW' := hW
  obtain ⟨p, q, hA0, hV, rfl, hfz, hnd⟩ := hW
  have hA : DataW.TrodAll enc Try.prog W 0 (fun _ => true) true Try.f5.params.toList args.toList ds p := hA0
  rw [Try.params5] at hA hval
  obtain ⟨v0, vs0, d0, ds0, p0, q0, hargs, rfl, rfl, h0, r0⟩ := trodAll_cons hA
  obtain ⟨v1, vs1, d1, ds1, p1, q1, rfl, rfl, rfl, h1, r1⟩ := trodAll_cons r0
  obtain ⟨v2, vs2, d2, ds2, p2, q2, rfl, rfl, rfl, h2, r2⟩ := trodAll_cons r1
  obtain ⟨rfl, rfl, rfl⟩ := trodAll_nil r2
  obtain rfl : args = #[v0, v1, v2] := by cases args; simp_all
  obtain ⟨rfl, rfl⟩ := trodVars_none hV
  obtain ⟨a0, rfl, rfl, rfl, w0⟩ := open_int Try.underlying3 (hval 0 3 v0 rfl rfl) h0
  obtain ⟨a1, rfl, rfl, rfl, w1⟩ := open_int Try.underlying3 (hval 1 3 v1 rfl rfl) h1
  obtain ⟨a2, rfl, rfl, rfl, w2⟩ := open_int Try.underlying3 (hval 2 3 v2 rfl rfl) h2
  clear hA0 hval0
  refine (again_walk a0 a1 a2 W).mono fun e W' ⟨he, bel⟩ => ?_
  subst he
  exact ⟨_, rfl, _, _, _, [], [], [], hW', trodAll_mk1 (shut_bool Try.underlying4 _), (trodAll_cons_mk (shut_int Try.underlying3 w0) (trodAll_cons_mk (shut_int Try.underlying3 w1) (trodAll_cons_mk (shut_int Try.underlying3 w2) trodAll_mk0))), rfl, bel.frame _, fun h => by cases h⟩

theorem again_holds : Rows.TimersAgainSaid :=
  OpenClaim.holds_of_wide 5 Try.f5 rfl rfl rfl rfl rfl rfl rfl ⟨rfl, rfl, rfl, rfl, rfl⟩ rfl rfl rfl rfl rfl (by kernel_rfl) Try.func5 (by kernel_rfl)
    (of_decide_eq_true (by kernel_rfl)) (by unfold Func.isWrapper; first | (rw [if_pos (by decide +kernel)]; kernel_rfl) | (rw [if_neg (by decide +kernel)]; exact ⟨rfl, rfl⟩))
    (fun os started H enc _ => again_lifted os started H enc)
#print axioms again_holds
end Go.Proofs.Ytcjibgpbfcedlaa
