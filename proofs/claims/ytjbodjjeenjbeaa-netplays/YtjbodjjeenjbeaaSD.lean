/-
  The call that opens a sealed text, and the document's answer: the same for every text that is not too long.
-/
import Derived.Test.YtjbodjjeenjbeaaSC
namespace Go.Proofs.Ytjbodjjeenjbeaa
open Go.RowKit
set_option linter.unusedVariables false

/-- What Open answers: the text, and the error's number. -/
def openOut (s : ByteArray) : ByteArray × Int :=
  if s.size < 4 then (ByteArray.empty, 2) else if K2.sealed (s.data.toList.take (s.size - 4)) = s.data.toList then (ofL (s.data.toList.take (s.size - 4)), 0) else (ByteArray.empty, 4)

theorem text_eq {a b : ByteArray} (h : a = b) : (a.toList == b.toList) = true := by rw [h]; simp
theorem text_ne {a b : ByteArray} (h : a ≠ b) : (a.toList == b.toList) = false := by
  rw [beq_eq_false_iff_ne]
  intro h1
  rw [ByteArray.toList_eq, ByteArray.toList_eq] at h1
  exact h (ByteArray.ext (Array.toList_inj.1 h1))
theorem cut_list (s : ByteArray) (z : Nat) : (s.extract 0 z).data.toList = s.data.toList.take z := by simp

set_option maxHeartbeats 400000 in
theorem open_any (s : ByteArray) (w : World) (hs : s.size ≤ 140737488351232) :
    Calls Try.prog 56 #[.string s] w fun e w' => e = .returned (.tuple #[.string (openOut s).1, .int .i64 (openOut s).2]) ∧ Below w.heap.size w w' := by
  by_cases h4 : s.size < 4
  · have e : openOut s = (ByteArray.empty, 2) := by simp [openOut, h4]
    rw [e]
    go_enter Try.func56, Try.ntmps56
    go_wp2
    go_ret2
    exact ⟨rfl, Below.refl _ _⟩
  · obtain ⟨z, hz⟩ : ∃ z, s.size = z + 4 := ⟨s.size - 4, by omega⟩
    have hzi : (s.size : Int) - 4 = (z : Int) := by omega
    have hzn : s.size - 4 = z := by omega
    have HT : Hid (_ = _) := cut_list s z
    have hts : (s.extract 0 z).size = z := by rw [ByteArray.size_extract]; omega
    have HTs : Hid ((s.extract 0 z).size = z) := hts
    by_cases hq : K2.sealed (s.data.toList.take z) = s.data.toList
    · have e : openOut s = (s.extract 0 z, 0) := by
        unfold openOut
        rw [if_neg h4, hzn, if_pos hq, ← cut_list s z, ofL_of]
      rw [e]
      have HX : Hid (ofL (K2.sealed (s.extract 0 z).data.toList) = s) := by
        have h1 : ofL (K2.sealed (s.extract 0 z).data.toList) = s := by rw [HT.out, hq, ofL_of]
        exact h1
      clear e hq HT
      go_enter Try.func56, Try.ntmps56
      go_wp2_with fail
      refine (seal_any (s.extract 0 z) w (by rw [HTs.out]; omega)).mono ?_
      rintro e w1 ⟨rfl, hb1⟩
      rw [HX.out]
      go_wp2_with fail
      refine (clone_any (s.extract 0 z) w1 (by rw [HTs.out]; omega)).mono ?_
      rintro e w2 ⟨rfl, hb2⟩
      go_wp2
      go_ret2
      exact ⟨rfl, hb1.trans (hb2.mono hb1.size)⟩
    · have e : openOut s = (ByteArray.empty, 4) := by
        unfold openOut
        rw [if_neg h4, hzn, if_neg hq]
      rw [e]
      have HX : Hid (ofL (K2.sealed (s.extract 0 z).data.toList) ≠ s) := by
        have h1 : ofL (K2.sealed (s.extract 0 z).data.toList) ≠ s := by
          intro h2
          apply hq
          have h3 := congrArg (fun t : ByteArray => t.data.toList) h2
          simp only [ofL_data, HT.out] at h3
          exact h3
        exact h1
      clear e hq HT
      go_enter Try.func56, Try.ntmps56
      go_wp2_with fail
      refine (seal_any (s.extract 0 z) w (by rw [HTs.out]; omega)).mono ?_
      rintro e w1 ⟨rfl, hb1⟩
      generalize ofL (K2.sealed (s.extract 0 z).data.toList) = X at HX ⊢
      have hX : (X.toList == s.toList) = false := text_ne HX.out
      go_wp2
      go_ret2
      exact ⟨rfl, hb1⟩

set_option maxHeartbeats 400000 in
theorem refOpen_any (s : ByteArray) (w : World) (hs : s.size ≤ 140737488351232) :
    Calls Try.prog 50 #[.string s] w fun e w' => e = .returned (.tuple #[.string (openOut s).1, .int .i64 (openOut s).2]) ∧ Below w.heap.size w w' := by
  by_cases h4 : s.size < 4
  · have e : openOut s = (ByteArray.empty, 2) := by simp [openOut, h4]
    rw [e]
    go_enter Try.func50, Try.ntmps50
    go_wp2
    go_ret2
    exact ⟨rfl, Below.refl _ _⟩
  · obtain ⟨z, hz⟩ : ∃ z, s.size = z + 4 := ⟨s.size - 4, by omega⟩
    have hzi : (s.size : Int) - 4 = (z : Int) := by omega
    have hzn : s.size - 4 = z := by omega
    have HT : Hid (_ = _) := cut_list s z
    have hts : (s.extract 0 z).size = z := by rw [ByteArray.size_extract]; omega
    have HTs : Hid ((s.extract 0 z).size = z) := hts
    by_cases hq : K2.sealed (s.data.toList.take z) = s.data.toList
    · have e : openOut s = (s.extract 0 z, 0) := by
        unfold openOut
        rw [if_neg h4, hzn, if_pos hq, ← cut_list s z, ofL_of]
      rw [e]
      have HX : Hid (ofL (K2.sealed (s.extract 0 z).data.toList) = s) := by
        have h1 : ofL (K2.sealed (s.extract 0 z).data.toList) = s := by rw [HT.out, hq, ofL_of]
        exact h1
      clear e hq HT
      go_enter Try.func50, Try.ntmps50
      go_wp2_with fail
      refine (refSeal_any (s.extract 0 z) w (by rw [HTs.out]; omega)).mono ?_
      rintro e w1 ⟨rfl, hb1⟩
      rw [HX.out]
      go_wp2
      go_ret2
      exact ⟨rfl, hb1⟩
    · have e : openOut s = (ByteArray.empty, 4) := by
        unfold openOut
        rw [if_neg h4, hzn, if_neg hq]
      rw [e]
      have HX : Hid (ofL (K2.sealed (s.extract 0 z).data.toList) ≠ s) := by
        have h1 : ofL (K2.sealed (s.extract 0 z).data.toList) ≠ s := by
          intro h2
          apply hq
          have h3 := congrArg (fun t : ByteArray => t.data.toList) h2
          simp only [ofL_data, HT.out] at h3
          exact h3
        exact h1
      clear e hq HT
      go_enter Try.func50, Try.ntmps50
      go_wp2_with fail
      refine (refSeal_any (s.extract 0 z) w (by rw [HTs.out]; omega)).mono ?_
      rintro e w1 ⟨rfl, hb1⟩
      generalize ofL (K2.sealed (s.extract 0 z).data.toList) = X at HX ⊢
      have hX : (X.toList == s.toList) = false := text_ne HX.out
      go_wp2
      go_ret2
      exact ⟨rfl, hb1⟩
end Go.Proofs.Ytjbodjjeenjbeaa
