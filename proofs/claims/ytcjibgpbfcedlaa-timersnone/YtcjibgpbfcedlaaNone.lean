/-
  Proved: for every deed the law TimersNone of the program returns true, and the argument reads as it did.
-/
import Derived.Test.YtcjibgpbfcedlaaS
import Derived.Test.YtcjibgpbfcedlaaT
import Derived.OpenShut
namespace Go.Proofs.Ytcjibgpbfcedlaa
open Go.ChangeShapes Go.WideShapes Go.ChangeAt Go.RowKit
set_option linter.unusedVariables false

theorem row3 {w : World} {k : Nat} {v0 v1 v2 : Value} {t : TypeId} (h : w.heap[k]? = some (.cells #[v0, v1, v2] t (0, 0))) :
    w.cell? ⟨k, 0, none⟩ = some v0 ∧ w.cell? ⟨k, 1, none⟩ = some v1 ∧ w.cell? ⟨k, 2, none⟩ = some v2 :=
  ⟨by rw [cell_of_row w k 0 _ _ _ h]; rfl, by rw [cell_of_row w k 1 _ _ _ h]; rfl, by rw [cell_of_row w k 2 _ _ _ h]; rfl⟩
set_option maxRecDepth 100000 in
set_option maxHeartbeats 2000000 in
theorem none_walk (k i t : Int) (w : World) : Calls Try.prog 6 #[.agg #[.int .i64 k, .int .i64 i, .int .i64 t]] w fun e w' => e = .returned (.bool true) ∧ Below w.heap.size w w' := by
  have HB := Hid_of (bel1 w (.cells #[.int .i64 k, .int .i64 i, .int .i64 t] 28))
  have HR := Hid_of (heap_alloc_last w (.cells #[.int .i64 k, .int .i64 i, .int .i64 t] 28))
  have hsz : (w.alloc (.cells #[.int .i64 k, .int .i64 i, .int .i64 t] 28)).heap.size = w.heap.size + 1 := by simp
  obtain ⟨W1, HW1⟩ : ∃ W1, Hid (w.alloc (.cells #[.int .i64 k, .int .i64 i, .int .i64 t] 28) = W1) := ⟨_, rfl⟩
  rw [HW1.out] at HB HR hsz
  go_enter Try.func6, Try.ntmps6
  go_wp2_with fail
  rw [HW1.out]
  clear HW1
  refine (nil_next _).mono ?_
  rintro x w2 ⟨rfl, B2⟩
  obtain ⟨c0, c1, c2⟩ := row3 ((B2.block _ (by omega)).trans HR.out)
  have hlt : w.heap.size < w2.heap.size := by have := B2.size; omega
  have HB2 := Hid_of (bel_up HB.out B2 (Nat.le_refl _))
  have d1 : (w2.alloc (.cells #[.int .i64 0, .int .i64 0] 42)).cell? ⟨w.heap.size, 1, none⟩ = some (.int .i64 i) := ((bel1 w2 _).cell (p := ⟨w.heap.size, 1, none⟩) hlt).trans c1
  have d2 : (w2.alloc (.cells #[.int .i64 0, .int .i64 0] 42)).cell? ⟨w.heap.size, 2, none⟩ = some (.int .i64 t) := ((bel1 w2 _).cell (p := ⟨w.heap.size, 2, none⟩) hlt).trans c2
  have HB3 : Hid (Below w.heap.size w (w2.alloc (.cells #[.int .i64 0, .int .i64 0] 42))) := bel_up HB2.out (bel1 w2 _) (Nat.le_refl _)
  clear B2 HB HR hsz HB2
  go_wp2_with fail
  refine (nil_set _ _ _).mono ?_
  rintro x w3 ⟨rfl, rfl⟩
  go_wp2_with fail
  refine (nil_stop _ _).mono ?_
  rintro x w3 ⟨rfl, rfl⟩
  go_wp2_with fail
  refine (nil_due _ _).mono ?_
  rintro x w3 ⟨rfl, rfl⟩
  go_wp2_with fail
  refine (nil_len _).mono ?_
  rintro x w3 ⟨rfl, rfl⟩
  go_wp2_with fail
  refine (nil_all _).mono ?_
  rintro x w3 ⟨rfl, rfl⟩
  go_wp2_with fail
  refine (awake_any _).mono ?_
  rintro x w3 ⟨rfl, b3⟩
  have HB4 := Hid_of (bel_up HB3.out b3 (Nat.le_refl _))
  clear b3 HB3 c0 c1 c2 d1 d2
  go_wp2
  go_ret
  exact ⟨rfl, HB4.out⟩

set_option maxRecDepth 100000 in
theorem none_lifted (os : Os) (started : os.Started) (H : Type) (enc : TypeId × Value → H) :
    ReturnsInHanded {} Try.checked os 6 .any (Rows.timersNoneSpec.pre6 enc Try.prog Try.f6 Rows.timersNoneRow.domain false) (Rows.timersNoneSpec.post enc Try.prog Try.f6 false true false false) := by
  refine returnsInHanded_of_change (C := Try.checked) own started (by kernel_rfl) Try.func6
    (ChangeSpec.witness6 (enc := enc) (C := Try.checked) false ⟨#[], #[.agg #[.int .i64 0, .int .i64 0, .int .i64 0]], []⟩ 8 (by kernel_rfl) (by kernel_rfl) (by kernel_rfl) (by kernel_rfl)) ?_
  intro W base args ds gs before hval0 hW hcnd _
  have hval : ∀ (j : Nat) t v, Try.f6.params[j]? = some t → args[j]? = some v → Value.okWide Try.prog W .any base t v := hval0
  have hW' := hW
  obtain ⟨p, q, hA0, hV, rfl, hfz, hnd⟩ := hW
  have hA : DataW.TrodAll enc Try.prog W 0 (fun _ => true) true Try.f6.params.toList args.toList ds p := hA0
  rw [Try.params6] at hA hval
  obtain ⟨v0, vs0, d0, ds0, p0, q0, hargs, rfl, rfl, h0, r0⟩ := trodAll_cons hA
  obtain ⟨rfl, rfl, rfl⟩ := trodAll_nil r0
  obtain rfl : args = #[v0] := by cases args; simp_all
  obtain ⟨rfl, rfl⟩ := trodVars_none hV
  obtain ⟨cs, rfl, hcs⟩ := okWide_struct Try.underlying28 (hval 0 28 v0 rfl rfl)
  have k0 := h0
  have lt0 : ∀ x ∈ p0, x.block < W.heap.size := by obtain ⟨m, hm⟩ := k0; exact DataW.trod_lt m _ _ _ hm
  obtain ⟨it, rfl⟩ : ∃ d : Dd, cs = #[.int .i64 d.k, .int .i64 d.a, .int .i64 d.n] := by
    obtain ⟨fuel, hf⟩ := h0
    obtain ⟨d, e⟩ := open_deed hf
    refine ⟨d, ?_⟩
    apply Array.ext'
    simpa [Value.cells] using e
  clear hA0 hval0
  refine (none_walk it.k it.a it.n W).mono fun e W' ⟨he, bel⟩ => ?_
  subst he
  exact ⟨_, rfl, _, _, _, [], _, [], hW', trodAll_mk1 (shut_bool Try.underlying4 _), (trodAll_cons_mk (Below.trod laidOut (by kernel_rfl) (of_decide_eq_true (by kernel_rfl)) k0 bel lt0) trodAll_mk0), rfl, bel.frame _, fun h => by cases h⟩

theorem none_holds : Rows.TimersNoneSaid :=
  OpenClaim.holds_of_wide 6 Try.f6 rfl rfl rfl rfl rfl rfl rfl ⟨rfl, rfl, rfl, rfl, rfl⟩ rfl rfl rfl rfl rfl (by kernel_rfl) Try.func6 (by kernel_rfl)
    (of_decide_eq_true (by kernel_rfl)) (by unfold Func.isWrapper; first | (rw [if_pos (by decide +kernel)]; kernel_rfl) | (rw [if_neg (by decide +kernel)]; exact ⟨rfl, rfl⟩))
    (fun os started H enc _ => none_lifted os started H enc)
#print axioms none_holds
end Go.Proofs.Ytcjibgpbfcedlaa
