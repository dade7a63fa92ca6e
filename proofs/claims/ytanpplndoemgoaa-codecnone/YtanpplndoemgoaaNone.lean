/-
  Proved: for every item the law CodecNone of the program returns true, and the argument reads as it did.
-/
import Derived.Test.YtanpplndoemgoaaN
import Derived.ShutString
namespace Go.Proofs.Ytanpplndoemgoaa
open Go.ChangeShapes Go.WideShapes Go.ChangeAt Go.RowKit
open Go.ChangeMaps (open_string shut_string)
set_option linter.unusedVariables false

theorem one_item {w w' : World} {k : Nat} {it : It} (h : w'.heap[k]? = some (.cells #[it.v0, it.v1, it.v2, it.v3, it.v4] 34 (0, 0))) (ok : ItOk w' it) : Items w' (some ⟨k, 0, none⟩) [it] := by
  intro j hj
  have hj0 : j = 0 := by simpa using hj
  subst hj0
  refine ⟨ok, k, 0, rfl, ?_, ?_, ?_, ?_, ?_⟩
  · rw [cell_of_row w' k _ _ _ _ h]; rfl
  · rw [cell_of_row w' k _ _ _ _ h]; rfl
  · rw [cell_of_row w' k _ _ _ _ h]; rfl
  · rw [cell_of_row w' k _ _ _ _ h]; rfl
  · rw [cell_of_row w' k _ _ _ _ h]; rfl
theorem fewN_one {it : It} (h : fewN [it] ≠ 0) : okI it.x = true := by
  unfold fewN few at h
  simp at h
  exact h

set_option maxRecDepth 100000 in
set_option maxHeartbeats 4000000 in
theorem none_walk (it : It) (w : World) (ok : ItOk w it) :
    Calls Try.prog 7 #[.agg #[it.v0, it.v1, it.v2, it.v3, it.v4]] w fun e w' => e = .returned (.bool true) ∧ Below w.heap.size w w' := by
  have B2 : Below w.heap.size w ((w.alloc (.cells #[it.v0, it.v1, it.v2, it.v3, it.v4] 34)).alloc (.cells #[it.v0, it.v1, it.v2, it.v3, it.v4] 34)) := ((Below.refl w.heap.size w).alloc (Nat.le_refl _) _).alloc (by simp) _
  have ok2 := ok.keep B2
  have HI : Hid (Items ((w.alloc (.cells #[it.v0, it.v1, it.v2, it.v3, it.v4] 34)).alloc (.cells #[it.v0, it.v1, it.v2, it.v3, it.v4] 34)) (some ⟨w.heap.size + 1, 0, none⟩) [it]) := one_item (w := w) (heap_alloc2_new w _ _) ok2
  have hv : itv it = .agg #[it.v0, it.v1, it.v2, it.v3, it.v4] := rfl
  have HF : Hid (fewN [it] ≠ 0 → okI it.x = true) := fewN_one
  have hf01 : fewN [it] = 0 ∨ fewN [it] = 1 := by unfold fewN; split <;> simp
  obtain ⟨⟨kind, n, text, ints, texts⟩, ia, icap, ta, tcap⟩ := it
  have HO2 : Hid (ItOk ((w.alloc (.cells #[.int .i64 kind, .int .i64 n, .string (ofL text), .slice ia ints.length icap, .slice ta texts.length tcap] 34)).alloc (.cells #[.int .i64 kind, .int .i64 n, .string (ofL text), .slice ia ints.length icap, .slice ta texts.length tcap] 34)) ⟨⟨kind, n, text, ints, texts⟩, ia, icap, ta, tcap⟩) := ok2
  simp only [It.v0, It.v1, It.v2, It.v3, It.v4] at B2 HI ⊢
  clear ok2 ok hv
  go_enter Try.func7, Try.ntmps7
  go_wp2_with fail
  refine (few_any (some ⟨w.heap.size + 1, 0, none⟩) 1 [⟨⟨kind, n, text, ints, texts⟩, ia, icap, ta, tcap⟩] _ (by simp [maxLen]) HI.out).mono ?_
  rintro x w1 ⟨rfl, rfl⟩
  rcases hf01 with h0 | h1
  · rw [h0]
    clear HF
    go_wp2_with fail
    refine (awake_any _).mono ?_
    rintro x w2 ⟨rfl, hb⟩
    go_wp2
    go_ret
    exact ⟨rfl, B2.trans (hb.mono B2.size)⟩
  · have hok := HF.out (by rw [h1]; decide)
    rw [h1]
    clear HF h1
    go_wp2_with fail
    refine (layItem_nil ⟨⟨kind, n, text, ints, texts⟩, ia, icap, ta, tcap⟩ _ HO2.out hok).mono ?_
    rintro x w2 ⟨rfl, hb2⟩
    have B3 := B2.trans (hb2.mono B2.size)
    clear hb2 B2 HO2 HI hok
    go_wp2_with fail
    refine (wdone_nil w2).mono ?_
    rintro x w3 ⟨rfl, rfl⟩
    have h0 : ofL [] = { data := #[] } := rfl
    go_wp2_with fail
    refine (int_none w3).mono ?_
    rintro x w4 ⟨rfl, rfl⟩
    go_wp2_with fail
    refine (byte_nil w4).mono ?_
    rintro x w5 ⟨rfl, rfl⟩
    go_wp2_with fail
    refine (text_none w5).mono ?_
    rintro x w6 ⟨rfl, hb6⟩
    have B6 := B3.trans (hb6.mono B3.size)
    go_wp2_with fail
    refine (ints_none w6).mono ?_
    rintro x w7 ⟨rfl, rfl⟩
    go_wp2_with fail
    refine (texts_none w7).mono ?_
    rintro x w8 ⟨rfl, rfl⟩
    go_wp2_with fail
    refine (left_nil w8).mono ?_
    rintro x w9 ⟨rfl, rfl⟩
    go_wp2_with fail
    refine (rdone_nil w9).mono ?_
    rintro x w10 ⟨rfl, rfl⟩
    go_wp2_with fail
    refine (awake_any _).mono ?_
    rintro x w11 ⟨rfl, hb11⟩
    go_wp2
    go_ret
    exact ⟨rfl, B6.trans (hb11.mono B6.size)⟩

theorem own : ownKnob Try.prog.godebug = none := by kernel_rfl
theorem laidOut : laidOutB Try.prog = true := by kernel_rfl

set_option maxRecDepth 100000 in
theorem none_lifted (os : Os) (started : os.Started) (H : Type) (enc : TypeId × Value → H) :
    ReturnsInHanded {} Try.checked os 7 .any (Rows.codecNoneSpec.pre6 enc Try.prog Try.f7 Rows.codecNoneRow.domain false) (Rows.codecNoneSpec.post enc Try.prog Try.f7 false true false false) := by
  refine returnsInHanded_of_change (C := Try.checked) own started (by kernel_rfl) Try.func7
    (ChangeSpec.witness6 (enc := enc) (C := Try.checked) false ⟨#[], #[.agg #[.int .i64 0, .int .i64 0, .string ByteArray.empty, .slice none 0 0, .slice none 0 0]], []⟩ 8 (by kernel_rfl) (by kernel_rfl) (by kernel_rfl) (by kernel_rfl)) ?_
  intro W base args ds gs before hval0 hW hcnd _
  have hval : ∀ (j : Nat) t v, Try.f7.params[j]? = some t → args[j]? = some v → Value.okWide Try.prog W .any base t v := hval0
  have hW' := hW
  obtain ⟨p, q, hA0, hV, rfl, hfz, hnd⟩ := hW
  have hA : DataW.TrodAll enc Try.prog W 0 (fun _ => true) true Try.f7.params.toList args.toList ds p := hA0
  rw [Try.params7] at hA hval
  obtain ⟨v0, vs0, d0, ds0, p0, q0, hargs, rfl, rfl, h0, r0⟩ := trodAll_cons hA
  obtain ⟨rfl, rfl, rfl⟩ := trodAll_nil r0
  obtain rfl : args = #[v0] := by cases args; simp_all
  obtain ⟨rfl, rfl⟩ := trodVars_none hV
  obtain ⟨cs, rfl, hcs⟩ := okWide_struct Try.underlying34 (hval 0 34 v0 rfl rfl)
  have k0 := h0
  have lt0 : ∀ x ∈ p0, x.block < W.heap.size := by obtain ⟨m, hm⟩ := k0; exact DataW.trod_lt m _ _ _ hm
  obtain ⟨it, rfl, ok⟩ : ∃ it : It, cs = #[it.v0, it.v1, it.v2, it.v3, it.v4] ∧ ItOk W it := by
    obtain ⟨fuel, hf⟩ := h0
    obtain ⟨it, e, ok⟩ := open_item hf
    refine ⟨it, ?_, ok⟩
    apply Array.ext'
    simpa [Value.cells] using e
  clear hA0 hval0
  refine (none_walk it W ok).mono fun e W' ⟨he, bel⟩ => ?_
  subst he
  exact ⟨_, rfl, _, _, _, [], _, [], hW', trodAll_mk1 (shut_bool Try.underlying4 _), (trodAll_cons_mk (Below.trod laidOut (by kernel_rfl) (of_decide_eq_true (by kernel_rfl)) k0 bel lt0) trodAll_mk0), rfl, bel.frame _, fun h => by cases h⟩

theorem none_holds : Rows.CodecNoneSaid :=
  OpenClaim.holds_of_wide 7 Try.f7 rfl rfl rfl rfl rfl rfl rfl ⟨rfl, rfl, rfl, rfl, rfl⟩ rfl rfl rfl rfl rfl (by kernel_rfl) Try.func7 (by kernel_rfl)
    (of_decide_eq_true (by kernel_rfl)) (by unfold Func.isWrapper; first | (rw [if_pos (by decide +kernel)]; kernel_rfl) | (rw [if_neg (by decide +kernel)]; exact ⟨rfl, rfl⟩))
    (fun os started H enc _ => none_lifted os started H enc)
#print axioms none_holds

end Go.Proofs.Ytanpplndoemgoaa
