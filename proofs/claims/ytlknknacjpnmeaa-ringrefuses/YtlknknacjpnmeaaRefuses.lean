/-
  Proved: for every number and every text the law RingRefuses of the program returns true, and the arguments read as they did.
-/
import Derived.Test.YtlknknacjpnmeaaG
import Derived.Test.YtlknknacjpnmeaaP
import Derived.OpenShut
namespace Go.Proofs.Ytlknknacjpnmeaa
open Go.ChangeShapes Go.WideShapes Go.ChangeAt Go.RowKit
open Go.ChangeMaps (open_string shut_string)
set_option linter.unusedVariables false

def sa : ByteArray := ⟨#[97]⟩
theorem fill_yes {m : Nat} {k : Nat} (h : k < m) : M.ok (m : Int) (List.replicate k sa) sa = true ∧ M.put (m : Int) (List.replicate k sa) sa = List.replicate (k + 1) sa := by
  have ho : M.ok (m : Int) (List.replicate k sa) sa = true := by
    simp only [M.ok, List.length_replicate, Bool.and_eq_true, decide_eq_true_eq]
    exact ⟨by omega, by decide⟩
  refine ⟨ho, ?_⟩
  rw [(M.ok_yes ho).2.2, List.replicate_succ']
theorem full_no {m : Nat} {P : List ByteArray} (s : ByteArray) (h : P.length = m) : M.ok (m : Int) P s = false ∧ M.put (m : Int) P s = P := by
  have ho : M.ok (m : Int) P s = false := by
    simp only [M.ok, Bool.and_eq_false_iff, decide_eq_false_iff_not]
    exact .inl (by omega)
  exact ⟨ho, (M.ok_no ho).2⟩
theorem first_go {m : Nat} (h : 1 ≤ m) : M.has (List.replicate m sa) 0 = true ∧ (List.replicate m sa).drop (M.cut (List.replicate m sa) 1) = List.replicate (m - 1) sa := by
  constructor
  · simp [M.has]; omega
  · rw [show M.cut (List.replicate m sa) 1 = 1 by simp [M.cut]; omega, List.drop_replicate]
theorem last_yes {m : Nat} (s : ByteArray) (h : 1 ≤ m) (hs : s.size ≤ 65536) : M.ok (m : Int) (List.replicate (m - 1) sa) s = true ∧ M.put (m : Int) (List.replicate (m - 1) sa) s = List.replicate (m - 1) sa ++ [s] := by
  have ho : M.ok (m : Int) (List.replicate (m - 1) sa) s = true := by
    simp only [M.ok, List.length_replicate, Bool.and_eq_true, decide_eq_true_eq]
    exact ⟨by omega, hs⟩
  exact ⟨ho, (M.ok_yes ho).2.2⟩
set_option maxRecDepth 100000 in
set_option maxHeartbeats 4000000 in
theorem refuses_walk (n : Int) (s : ByteArray) (w : World) (hs : s.size ≤ maxLen) : Calls Try.prog 5 #[.int .i64 n, .string s] w fun e w' => e = .returned (.bool true) ∧ Below w.heap.size w w' := by
  have hs63 : s.size ≤ 9223372036854775807 := by unfold maxLen at hs; omega
  by_cases hbig : 1000 < s.size
  · go_enter Try.func5, Try.ntmps5
    go_wp2_with fail
    refine (awake_any w).mono ?_
    rintro x w1 ⟨rfl, b1⟩
    have HB := Hid_of b1
    clear b1
    go_wp2
    go_ret
    exact ⟨rfl, HB.out⟩
  · obtain ⟨mx, hmx⟩ : ∃ x, max n 1 = x := ⟨_, rfl⟩
    obtain ⟨mn, hmn⟩ : ∃ x, min mx 64 = x := ⟨_, rfl⟩
    have hlim : M.lim n = mn := by unfold M.lim; rw [hmx, hmn]
    have hml := M.lim_le n
    rw [hlim] at hml
    obtain ⟨m, rfl⟩ := Int.eq_ofNat_of_zero_le (show 0 ≤ mn by omega)
    have hN := newT n w
    rw [hlim] at hN
    clear hlim
    have hm1 : 1 ≤ m := by omega
    have hm64 : m ≤ 64 := by omega
    clear hml
    go_enter Try.func5, Try.ntmps5
    go_wp2_with fail
    refine hN.mono ?_
    rintro x w1 ⟨b, rfl, S1⟩
    have HS1 := Hid_of S1
    clear S1 hN
    go_wp2_with fail
    go_loopw [7] (fun i wr => ∃ k : Nat, k ≤ m ∧ i = .int .i64 k ∧ Hid (∃ v, TS w wr b v (m : Int) (List.replicate k sa))) (fun i _ => m - (intOf i).toNat)
    case atStart => exact ⟨0, by omega, rfl, _, HS1.out⟩
    case round =>
      obtain ⟨k, hk, rfl, HT⟩ := hrel
      obtain ⟨v, T⟩ := HT.out
      clear HT HS1
      by_cases hlt : k < m
      · have hp := T.put sa (by decide)
        rw [(fill_yes hlt).1, (fill_yes hlt).2] at hp
        clear T
        go_wp2_with fail
        refine hp.mono ?_
        rintro x w2 ⟨v2, rfl, T2, _⟩
        have HT2 := Hid_of T2
        clear T2 hp
        go_wp2
        go_roundw
        case rel => exact ⟨k + 1, by omega, by go_num, v2, HT2.out⟩
        case measure => simp [intOf]; omega
      · have hkm : k = m := by omega
        subst hkm
        have hfull := full_no (m := k) (P := List.replicate k sa) s (by simp)
        have hp := T.put s (by unfold maxLen; omega)
        rw [hfull.1, hfull.2] at hp
        clear T hfull
        go_wp2_with fail
        refine hp.mono ?_
        rintro x w2 ⟨v2, rfl, T2, _⟩
        have hl := T2.len
        have HT2 := Hid_of T2
        rw [List.length_replicate] at hl
        clear T2 hp
        go_wp2_with fail
        refine hl.mono ?_
        rintro x w3 ⟨rfl, rfl⟩
        have hr := HT2.out.room
        rw [List.length_replicate, Int.sub_self] at hr
        clear hl HT2
        go_wp2_with fail
        refine hr.mono ?_
        rintro x w4 ⟨rfl, _, T4⟩
        have ht := T4.take
        rw [(first_go hm1).1, (first_go hm1).2] at ht
        generalize M.peek (List.replicate k sa) 0 = pk at *
        clear hr T4
        go_wp2_with fail
        refine ht.mono ?_
        rintro x w5 ⟨v5, rfl, T5, _⟩
        have hp5 := T5.put s (by unfold maxLen; omega)
        rw [(last_yes s hm1 (by omega)).1, (last_yes s hm1 (by omega)).2] at hp5
        clear ht T5
        go_wp2_with fail
        refine hp5.mono ?_
        rintro x w6 ⟨v6, rfl, T6, _⟩
        have hfull := full_no (m := k) (P := List.replicate (k - 1) sa ++ [s]) s (by simp; omega)
        have hp6 := T6.put s (by unfold maxLen; omega)
        rw [hfull.1, hfull.2] at hp6
        clear hp5 T6 hfull
        go_wp2_with fail
        refine hp6.mono ?_
        rintro x w7 ⟨v7, rfl, T7, _⟩
        have HB7 := Hid_of T7.bel
        clear hp6 T7
        go_wp2_with fail
        refine (awake_any _).mono ?_
        rintro x w8 ⟨rfl, b8⟩
        have HB8 := Hid_of (bel_up HB7.out b8 (Nat.le_refl _))
        clear b8 HB7
        go_wp2
        go_ret
        exact ⟨rfl, HB8.out⟩
set_option maxRecDepth 100000 in
theorem refuses_lifted (os : Os) (started : os.Started) (H : Type) (enc : TypeId × Value → H) :
    ReturnsInHanded {} Try.checked os 5 .any (Rows.ringRefusesSpec.pre6 enc Try.prog Try.f5 Rows.ringRefusesRow.domain false) (Rows.ringRefusesSpec.post enc Try.prog Try.f5 false true false false) := by
  refine returnsInHanded_of_change (C := Try.checked) own started (by kernel_rfl) Try.func5
    (ChangeSpec.witness6 (enc := enc) (C := Try.checked) false ⟨#[], #[.int .i64 0, .string ByteArray.empty], []⟩ 8 (by kernel_rfl) (by kernel_rfl) (by kernel_rfl) (by kernel_rfl)) ?_
  intro W base args ds gs before hval0 hW hcnd _
  have hval : ∀ (j : Nat) t v, Try.f5.params[j]? = some t → args[j]? = some v → Value.okWide Try.prog W .any base t v := hval0
  have hW' := hW
  obtain ⟨p, q, hA0, hV, rfl, hfz, hnd⟩ := hW
  have hA : DataW.TrodAll enc Try.prog W 0 (fun _ => true) true Try.f5.params.toList args.toList ds p := hA0
  rw [Try.params5] at hA hval
  obtain ⟨v0, vs0, d0, ds0, p0, q0, hargs, rfl, rfl, h0, r0⟩ := trodAll_cons hA
  obtain ⟨v1, vs1, d1, ds1, p1, q1, rfl, rfl, rfl, h1, r1⟩ := trodAll_cons r0
  obtain ⟨rfl, rfl, rfl⟩ := trodAll_nil r1
  obtain rfl : args = #[v0, v1] := by cases args; simp_all
  obtain ⟨rfl, rfl⟩ := trodVars_none hV
  obtain ⟨a0, rfl, rfl, rfl, w0⟩ := open_int Try.underlying3 (hval 0 3 v0 rfl rfl) h0
  obtain ⟨a1, rfl, rfl, rfl, w1⟩ := open_string Try.underlying9 (hval 1 9 v1 rfl rfl) h1
  clear hA0 hval0
  refine (refuses_walk a0 a1 W w1).mono fun e W' ⟨he, bel⟩ => ?_
  subst he
  exact ⟨_, rfl, _, _, _, [], [], [], hW', trodAll_mk1 (shut_bool Try.underlying4 _), (trodAll_cons_mk (shut_int Try.underlying3 w0) (trodAll_cons_mk (shut_string Try.underlying9 w1) trodAll_mk0)), rfl, bel.frame _, fun h => by cases h⟩

theorem refuses_holds : Rows.RingRefusesSaid :=
  OpenClaim.holds_of_wide 5 Try.f5 rfl rfl rfl rfl rfl rfl rfl ⟨rfl, rfl, rfl, rfl, rfl⟩ rfl rfl rfl rfl rfl (by kernel_rfl) Try.func5 (by kernel_rfl)
    (of_decide_eq_true (by kernel_rfl)) (by unfold Func.isWrapper; first | (rw [if_pos (by decide +kernel)]; kernel_rfl) | (rw [if_neg (by decide +kernel)]; exact ⟨rfl, rfl⟩))
    (fun os started H enc _ => refuses_lifted os started H enc)
#print axioms refuses_holds

end Go.Proofs.Ytlknknacjpnmeaa
