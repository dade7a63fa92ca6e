/-
  Proved: for every two bytes and every number the law SectorTorn of the program returns true, and the arguments read as they did.
-/
import Derived.Test.YtjbdicnenkganaaL
import Derived.Test.YtjbdicnenkganaaP
import Derived.OpenShut
namespace Go.Proofs.Ytjbdicnenkganaa
open Go.ChangeShapes Go.WideShapes Go.ChangeAt Go.RowKit
open M (ofL ofL_size ofL_of)
set_option linter.unusedVariables false

theorem ext_all (s : ByteArray) (h : s.size = 64) : s.extract 0 64 = s := by
  rw [← h]
  exact ByteArray.extract_zero_size
theorem one_write (p : ByteArray) (q s : ByteArray) (h : s.size = 64) : M.wcode 1 false 0 s = 0 ∧ M.wrote 1 false [(p, q)] 0 s = [(p, s)] := by
  have h0 : M.wcode 1 false 0 s = 0 := by
    unfold M.wcode
    rw [h]
    decide
  refine ⟨h0, ?_⟩
  unfold M.wrote
  rw [h0, h]
  simp only [decide_true, cond_true]
  show M.st [(p, q)] 0 (M.pc s 0) = _
  unfold M.pc
  rw [Nat.zero_mul, Nat.zero_add, ext_all s h]
  rfl
theorem one_crash (p s : ByteArray) (hs : s.size = 64) (tear : Int) : M.crash [(p, s)] 0 tear = [(bif M.tears tear then M.torn (p, s) tear.toNat else p, M.E)] := by
  have hl : M.lo [(p, s)] = [0] := by
    unfold M.lo
    have : M.lse (p, s) = true := M.lse_64 hs
    simp [this]
  unfold M.crash
  rw [hl]
  simp only [M.crs, M.nv, M.kept_zero, cond_false, List.getElem?_cons_zero, Option.getD_some]
  rfl
theorem one_read (p : ByteArray) : M.refused 1 false 0 1 = 0 ∧ M.rtext 1 false [(p, M.E)] 0 1 = p := by
  refine ⟨by decide, ?_⟩
  show M.cat [M.last (p, M.E)] = p
  rw [M.last_E]
  unfold M.cat
  simp only [List.flatMap_cons, List.flatMap_nil, List.append_nil]
  exact ofL_of p
def kk (tear : Int) : Nat := bif M.tears tear then tear.toNat else 0
theorem kk_eq (a b : UInt8) (tear : Int) : kk tear ≤ 64 ∧ (bif M.tears tear then M.torn (ofB a, ofB b) tear.toNat else ofB a) = (ofB b).extract 0 (kk tear) ++ (ofB a).extract (kk tear) 64 := by
  unfold kk
  cases ht : M.tears tear with
  | true =>
    unfold M.tears at ht
    simp only [Bool.and_eq_true, decide_eq_true_eq] at ht
    exact ⟨by simp only [cond_true]; omega, rfl⟩
  | false =>
    refine ⟨by simp, ?_⟩
    simp only [cond_false]
    rw [ext_all _ (ofB_size a)]
    apply ByteArray.ext
    rw [ByteArray.data_append, ByteArray.data_extract]
    simp
set_option maxRecDepth 100000 in
set_option maxHeartbeats 4000000 in
theorem torn_walk (a b : UInt8) (tear : Int) (w : World) : Calls Try.prog 6 #[.int .u8 (a.toNat : Int), .int .u8 (b.toNat : Int), .int .i64 tear] w fun e w' => e = .returned (.bool true) ∧ Below w.heap.size w w' := by
  have sa := ofB_size a
  have sb := ofB_size b
  obtain ⟨hk64, hkk⟩ := kk_eq a b tear
  obtain ⟨k, hk⟩ : ∃ k, kk tear = k := ⟨_, rfl⟩
  rw [hk] at hk64 hkk
  have hkc : (¬ 0 < tear ∧ k = 0) ∨ (0 < tear ∧ ¬ tear < 64 ∧ k = 0) ∨ (0 < tear ∧ tear < 64 ∧ tear = (k : Int)) := by
    unfold kk M.tears at hk
    by_cases h1 : 0 < tear
    · by_cases h2 : tear < 64
      · refine .inr (.inr ⟨h1, h2, ?_⟩)
        rw [decide_eq_true (show 1 ≤ tear by omega), decide_eq_true h2] at hk
        simp only [Bool.and_self, cond_true] at hk
        omega
      · refine .inr (.inl ⟨h1, h2, ?_⟩)
        rw [decide_eq_false h2] at hk
        simpa using hk.symm
    · refine .inl ⟨h1, ?_⟩
      rw [decide_eq_false (show ¬ 1 ≤ tear by omega)] at hk
      simpa using hk.symm
  have HKK := Hid_of hkk
  clear hk hkk
  go_enter Try.func6, Try.ntmps6
  go_wp2_with fail
  refine (newD 1 w).mono ?_
  rintro x w1 ⟨bb, F1, rfl, S1⟩
  have S1' : DS w w1 bb F1 1 [(zr, M.E)] false := S1
  have HS1 := Hid_of S1'
  clear S1 S1'
  go_wp2_with fail
  refine (of_any a w1).mono ?_
  rintro x w2 ⟨rfl, b2⟩
  have hc := (HS1.out.keep b2).write 0 (ofB a) (by omega)
  rw [(one_write zr M.E (ofB a) sa).1, (one_write zr M.E (ofB a) sa).2] at hc
  clear b2 HS1
  go_wp2_with fail
  refine hc.mono ?_
  rintro x w3 ⟨F3, rfl, S3, _⟩
  have hc3 := S3.flush
  rw [show M.flush [(zr, ofB a)] = [(ofB a, M.E)] by unfold M.flush M.cl; simp only [List.map_cons, List.map_nil]; rw [M.lse_yes (M.lse_64 sa)]] at hc3
  clear hc S3
  go_wp2_with fail
  refine hc3.mono ?_
  rintro x w4 ⟨F4, rfl, S4, _⟩
  have HS4 := Hid_of S4
  clear hc3 S4
  go_wp2_with fail
  refine (of_any b w4).mono ?_
  rintro x w5 ⟨rfl, b5⟩
  have hc5 := (HS4.out.keep b5).write 0 (ofB b) (by omega)
  rw [(one_write (ofB a) M.E (ofB b) sb).1, (one_write (ofB a) M.E (ofB b) sb).2] at hc5
  clear b5 HS4
  go_wp2_with fail
  refine hc5.mono ?_
  rintro x w6 ⟨F6, rfl, S6, _⟩
  have hc6 := S6.crash 0 tear (by omega)
  rw [one_crash (ofB a) (ofB b) sb tear, HKK.out] at hc6
  clear hc5 S6
  go_wp2_with fail
  refine hc6.mono ?_
  rintro x w7 ⟨F7, rfl, S7, _⟩
  have hc7 := S7.read 0 1 (by omega)
  rw [(one_read M.E).1, (one_read _).2] at hc7
  clear hc6 S7
  go_wp2_with fail
  refine hc7.mono ?_
  rintro x w8 ⟨rfl, _, S8⟩
  have HB8 := Hid_of S8.bel
  clear hc7 S8 HKK
  have htz : (k : Int) ≤ 64 := by omega
  obtain ⟨r, hr⟩ : ∃ r, (ofB b).extract 0 k ++ (ofB a).extract k 64 = r := ⟨_, rfl⟩
  rcases hkc with ⟨h1, rfl⟩ | ⟨h1, h2, rfl⟩ | ⟨h1, h2, rfl⟩
  all_goals
    go_wp2_with fail
    go_region_held3 (fun _ => True) (trivial) (first
      | (go_at_call 26; refine (of_any _ _).mono ?_; rintro x wA ⟨rfl, bA⟩; have BA : Below w.heap.size w wA := bel_up (by first | assumption | exact Below.drew HB8.out) bA (Nat.le_refl _); clear bA)
      | (go_at_call 9; refine (awake_any _).mono ?_; rintro x wB ⟨rfl, bB⟩; have BB : Below w.heap.size w wB := bel_up (by assumption) bB (Nat.le_refl _); clear bB))
    all_goals
      have HQ := Hid_of BB
      clear BB
      go_wp2
      go_ret
      exact ⟨rfl, HQ.out⟩
set_option maxRecDepth 100000 in
theorem torn_lifted (os : Os) (started : os.Started) (H : Type) (enc : TypeId × Value → H) :
    ReturnsInHanded {} Try.checked os 6 .any (Rows.sectorTornSpec.pre6 enc Try.prog Try.f6 Rows.sectorTornRow.domain false) (Rows.sectorTornSpec.post enc Try.prog Try.f6 false true false false) := by
  refine returnsInHanded_of_change (C := Try.checked) own started (by kernel_rfl) Try.func6
    (ChangeSpec.witness6 (enc := enc) (C := Try.checked) false ⟨#[], #[.int .u8 0, .int .u8 0, .int .i64 0], []⟩ 8 (by kernel_rfl) (by kernel_rfl) (by kernel_rfl) (by kernel_rfl)) ?_
  intro W base args ds gs before hval0 hW hcnd _
  have hval : ∀ (j : Nat) t v, Try.f6.params[j]? = some t → args[j]? = some v → Value.okWide Try.prog W .any base t v := hval0
  have hW' := hW
  obtain ⟨p, q, hA0, hV, rfl, hfz, hnd⟩ := hW
  have hA : DataW.TrodAll enc Try.prog W 0 (fun _ => true) true Try.f6.params.toList args.toList ds p := hA0
  rw [Try.params6] at hA hval
  obtain ⟨v0, vs0, d0, ds0, p0, q0, hargs, rfl, rfl, h0, r0⟩ := trodAll_cons hA
  obtain ⟨v1, vs1, d1, ds1, p1, q1, rfl, rfl, rfl, h1, r1⟩ := trodAll_cons r0
  obtain ⟨v2, vs2, d2, ds2, p2, q2, rfl, rfl, rfl, h2, r2⟩ := trodAll_cons r1
  obtain ⟨rfl, rfl, rfl⟩ := trodAll_nil r2
  obtain rfl : args = #[v0, v1, v2] := by cases args; simp_all
  obtain ⟨rfl, rfl⟩ := trodVars_none hV
  obtain ⟨a0, rfl, rfl, rfl, w0⟩ := open_int Try.underlying5 (hval 0 5 v0 rfl rfl) h0
  obtain ⟨a1, rfl, rfl, rfl, w1⟩ := open_int Try.underlying5 (hval 1 5 v1 rfl rfl) h1
  obtain ⟨a2, rfl, rfl, rfl, w2⟩ := open_int Try.underlying3 (hval 2 3 v2 rfl rfl) h2
  clear hA0 hval0
  obtain ⟨x0, rfl⟩ := wf_u8 w0
  obtain ⟨x1, rfl⟩ := wf_u8 w1
  refine (torn_walk x0 x1 a2 W).mono fun e W' ⟨he, bel⟩ => ?_
  subst he
  exact ⟨_, rfl, _, _, _, [], [], [], hW', trodAll_mk1 (shut_bool Try.underlying4 _), (trodAll_cons_mk (shut_int Try.underlying5 w0) (trodAll_cons_mk (shut_int Try.underlying5 w1) (trodAll_cons_mk (shut_int Try.underlying3 w2) trodAll_mk0))), rfl, bel.frame _, fun h => by cases h⟩

theorem torn_holds : Rows.SectorTornSaid :=
  OpenClaim.holds_of_wide 6 Try.f6 rfl rfl rfl rfl rfl rfl rfl ⟨rfl, rfl, rfl, rfl, rfl⟩ rfl rfl rfl rfl rfl (by kernel_rfl) Try.func6 (by kernel_rfl)
    (of_decide_eq_true (by kernel_rfl)) (by unfold Func.isWrapper; first | (rw [if_pos (by decide +kernel)]; kernel_rfl) | (rw [if_neg (by decide +kernel)]; exact ⟨rfl, rfl⟩))
    (fun os started H enc _ => torn_lifted os started H enc)
#print axioms torn_holds
end Go.Proofs.Ytjbdicnenkganaa
