/-
  Proved: for every deed the law BitmapNone of the program returns true, and the argument reads as it did.
-/
import Derived.Test.YtigoadfbccpmkaaL
import Derived.Test.YtigoadfbccpmkaaR
import Derived.ShutString
import Derived.OpenShut
namespace Go.Proofs.Ytigoadfbccpmkaa
open Go.ChangeShapes Go.WideShapes Go.ChangeAt Go.RowKit
open Go.ChangeMaps (open_string shut_string)
set_option linter.unusedVariables false

set_option maxRecDepth 100000 in
set_option maxHeartbeats 4000000 in
theorem none_walk (d : Dd) (w : World) :
    Calls Try.prog 7 #[.agg #[.int .i64 d.k, .int .i64 d.a, .int .i64 d.n]] w fun e w' => e = .returned (.bool true) ∧ Below w.heap.size w w' := by
  obtain ⟨k, a, n⟩ := d
  have B0 : Below w.heap.size w (w.alloc (.cells #[.int .i64 k, .int .i64 a, .int .i64 n] 29)) := (Below.refl w.heap.size w).alloc (Nat.le_refl _) _
  simp only
  go_enter Try.func7, Try.ntmps7
  go_wp2_with fail
  refine (take_nil a _).mono ?_
  rintro x w1 ⟨rfl, rfl⟩
  go_wp2_with fail
  refine (set_nil a true _).mono ?_
  rintro x w2 ⟨rfl, rfl⟩
  go_wp2_with fail
  refine (get_nil a _).mono ?_
  rintro x w3 ⟨rfl, rfl⟩
  go_wp2_with fail
  refine (count_nil _).mono ?_
  rintro x w4 ⟨rfl, rfl⟩
  go_wp2_with fail
  refine (find_nil a _).mono ?_
  rintro x w5 ⟨rfl, rfl⟩
  go_wp2_with fail
  refine (runs_nil false _).mono ?_
  rintro x w6 ⟨rfl, rfl⟩
  go_wp2_with fail
  refine (free_nil a n _).mono ?_
  rintro x w7 ⟨rfl, hb7⟩
  have B7 := B0.trans (hb7.mono B0.size)
  clear hb7 B0
  go_wp2_with fail
  refine (text_nil _).mono ?_
  rintro x w8 ⟨rfl, rfl⟩
  have hem : ByteArray.empty = { data := #[] } := rfl
  go_wp2_with fail
  refine (awake_any _).mono ?_
  rintro x w9 ⟨rfl, hb9⟩
  go_wp2
  go_ret
  exact ⟨rfl, B7.trans (hb9.mono B7.size)⟩

set_option maxRecDepth 100000 in
theorem none_lifted (os : Os) (started : os.Started) (H : Type) (enc : TypeId × Value → H) :
    ReturnsInHanded {} Try.checked os 7 .any (Rows.bitmapNoneSpec.pre6 enc Try.prog Try.f7 Rows.bitmapNoneRow.domain false) (Rows.bitmapNoneSpec.post enc Try.prog Try.f7 false true false false) := by
  refine returnsInHanded_of_change (C := Try.checked) own started (by kernel_rfl) Try.func7
    (ChangeSpec.witness6 (enc := enc) (C := Try.checked) false ⟨#[], #[.agg #[.int .i64 0, .int .i64 0, .int .i64 0]], []⟩ 8 (by kernel_rfl) (by kernel_rfl) (by kernel_rfl) (by kernel_rfl)) ?_
  intro W base args ds gs before hval0 hW hcnd _
  have hval : ∀ (j : Nat) t v, Try.f7.params[j]? = some t → args[j]? = some v → Value.okWide Try.prog W .any base t v := hval0
  have hW' := hW
  obtain ⟨p, q, hA0, hV, rfl, hfz, hnd⟩ := hW
  have hA : DataW.TrodAll enc Try.prog W 0 (fun _ => true) true Try.f7.params.toList args.toList ds p := hA0
  rw [Try.params7] at hA hval
  obtain ⟨v0, vs0, d0, ds0, p0, q0, hargs, rfl, rfl, h0, r0⟩ := trodAll_cons hA
  obtain ⟨rfl, rfl, rfl⟩ := trodAll_nil r0
  obtain rfl : args = #[v0] := by cases args; simp_all
  obtain ⟨rfl, rfl⟩ := trodVars_none hV
  obtain ⟨cs, rfl, hcs⟩ := okWide_struct Try.underlying29 (hval 0 29 v0 rfl rfl)
  have k0 := h0
  have lt0 : ∀ x ∈ p0, x.block < W.heap.size := by obtain ⟨m, hm⟩ := k0; exact DataW.trod_lt m _ _ _ hm
  obtain ⟨it, rfl⟩ : ∃ d : Dd, cs = #[.int .i64 d.k, .int .i64 d.a, .int .i64 d.n] := by
    obtain ⟨fuel, hf⟩ := h0
    obtain ⟨d, e⟩ := open_deed hf
    refine ⟨d, ?_⟩
    apply Array.ext'
    simpa [Value.cells] using e
  clear hA0 hval0
  refine (none_walk it W).mono fun e W' ⟨he, bel⟩ => ?_
  subst he
  exact ⟨_, rfl, _, _, _, [], _, [], hW', trodAll_mk1 (shut_bool Try.underlying4 _), (trodAll_cons_mk (Below.trod laidOut (by kernel_rfl) (of_decide_eq_true (by kernel_rfl)) k0 bel lt0) trodAll_mk0), rfl, bel.frame _, fun h => by cases h⟩

theorem none_holds : Rows.BitmapNoneSaid :=
  OpenClaim.holds_of_wide 7 Try.f7 rfl rfl rfl rfl rfl rfl rfl ⟨rfl, rfl, rfl, rfl, rfl⟩ rfl rfl rfl rfl rfl (by kernel_rfl) Try.func7 (by kernel_rfl)
    (of_decide_eq_true (by kernel_rfl)) (by unfold Func.isWrapper; first | (rw [if_pos (by decide +kernel)]; kernel_rfl) | (rw [if_neg (by decide +kernel)]; exact ⟨rfl, rfl⟩))
    (fun os started H enc _ => none_lifted os started H enc)
#print axioms none_holds

end Go.Proofs.Ytigoadfbccpmkaa
