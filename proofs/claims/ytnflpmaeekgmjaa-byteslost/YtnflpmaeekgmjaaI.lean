/-
  Putting a text into another one: the program's answer is the plain function's, or the errors. For every input; nothing that was there is written.
-/
import Derived.Test.YtnflpmaeekgmjaaH
namespace Go.Proofs.Ytnflpmaeekgmjaa
open Go.RowKit
set_option linter.unusedVariables false

def putL (s : List UInt8) (k : Nat) (t : List UInt8) : List UInt8 := M.over (pad s (max s.length (k + t.length))) k t
def putOut (s : ByteArray) (k : Int) (t : ByteArray) : ByteArray × Int :=
  if k < 0 then (ByteArray.empty, 1) else if k > 65536 - (t.size : Int) ∨ (s.size : Int) > 65536 then (ByteArray.empty, 2) else (ofL (putL s.data.toList k.toNat t.data.toList), 0)
theorem pad_length (l : List UInt8) (n : Nat) (h : l.length ≤ n) : (pad l n).length = n := by simp [pad]; omega

set_option maxHeartbeats 1000000 in
theorem put_any (s : ByteArray) (k : Int) (t : ByteArray) (w : World) (hs : s.size ≤ maxLen) (ht : t.size ≤ maxLen) (hk : -9223372036854775808 ≤ k ∧ k ≤ 9223372036854775807) :
    Calls Try.prog 23 #[.string s, .int .i64 k, .string t] w fun e w' => e = .returned (.tuple #[.string (putOut s k t).1, .int .i64 (putOut s k t).2]) ∧ Below w.heap.size w w' := by
  unfold maxLen at hs ht
  by_cases h1 : k < 0
  · have e : putOut s k t = (ByteArray.empty, 1) := by simp [putOut, h1]
    rw [e]
    go_enter Try.func23, Try.ntmps23
    go_wp2
    go_ret2
    exact ⟨rfl, Below.refl _ _⟩
  · by_cases h2 : k > 65536 - (t.size : Int)
    · have e : putOut s k t = (ByteArray.empty, 2) := by simp [putOut, h1, h2]
      rw [e]
      have hd : decide (65536 - (t.size : Int) < k) = true := by simpa using h2
      go_enter Try.func23, Try.ntmps23
      go_wp2
      go_ret2
      exact ⟨rfl, Below.refl _ _⟩
    · have hd : decide (65536 - (t.size : Int) < k) = false := by simpa using h2
      by_cases h3 : (s.size : Int) > 65536
      · have e : putOut s k t = (ByteArray.empty, 2) := by simp [putOut, h1, h3]
        rw [e]
        go_enter Try.func23, Try.ntmps23
        go_wp2
        go_ret2
        exact ⟨rfl, Below.refl _ _⟩
      · have e : putOut s k t = (ofL (putL s.data.toList k.toNat t.data.toList), 0) := by simp [putOut, h1, h2, h3]
        rw [e]
        clear e
        obtain ⟨m, rfl⟩ := Int.eq_ofNat_of_zero_le (show 0 ≤ k by omega)
        rw [Int.toNat_natCast]
        have HP : ∀ n, n = max s.size (m + t.size) → putL s.data.toList m t.data.toList = M.over (pad s.data.toList n) m t.data.toList := by
          intro n hn
          rw [putL, len_data, len_data, hn]
        obtain ⟨i0, hi, hz0, hz1, hz2⟩ := info_parts Try.info5
        by_cases h4 : s.size < m + t.size
        · obtain ⟨n, hn⟩ : ∃ n : Nat, n = m + t.size := ⟨_, rfl⟩
          have HN : Hid (n = m + t.size) := hn
          have HQ : Hid (putL s.data.toList m t.data.toList = M.over (pad s.data.toList n) m t.data.toList) := HP n (by omega)
          have hnn : ((m : Int) + (t.size : Int)) = (n : Int) := by rw [hn]; simp
          have hq1 : s.size < n := by omega
          have hq2 : n ≤ 65536 := by omega
          have hq3 : m ≤ n := by omega
          have hq4 : t.size ≤ n - m := by omega
          clear hn HP
          by_cases h5 : m < n
          · go_enter Try.func23, Try.ntmps23
            go_wp2_with (at_make; refine wpList_make_full _ rfl (.tmp 27) (.tmp 27) 46 rfl w.heap.size 5 i0 (.int .u8 0) 1 Try.underlying46 hi hz0 hz1 .i64 .i64 _ _ n rfl rfl (by omega) (by omega) (by rw [hz2]; omega) (by unfold maxLen; omega) (Nat.le_refl _) ?_; intro w1 ho hg; rw [made_cells] at ho; have hrow := row_of_owns (by simp) ho; clear ho)
            refine (lay_any w.heap.size 0 n n _ s _ hrow (by omega) (by rw [List.length_replicate]; omega) (by omega)).mono ?_
            rintro e w2 ⟨rfl, hrow2, hg2⟩
            rw [over_pad _ _ (by rw [len_data]; omega)] at hrow2
            have hb2 := ((Below.refl _ _).grown hg (Nat.le_refl _) (by simp)).grown hg2 (by have := hg.size; omega) (by simp)
            have hz2' : w.heap.size ≤ w2.heap.size := hb2.size
            clear hrow hg hg2
            go_wp2_with fail
            refine (lay_any w.heap.size m (n - m) (n - m) _ t _ hrow2 (by omega) (by rw [pad_length _ _ (by rw [len_data]; omega)]; omega) (by omega)).mono ?_
            rintro e w3 ⟨rfl, hrow3, hg3⟩
            have hp : M.over (pad s.data.toList n) m t.data.toList = putL s.data.toList m t.data.toList := by
              exact HQ.out.symm
            rw [hp] at hrow3
            have hcv := hrow3.convert n n (by rw [← hp, M.over_length _ _ _ (by rw [pad_length _ _ (by rw [len_data]; omega), len_data]; omega), pad_length _ _ (by rw [len_data]; omega)])
            have hb3 := hb2.grown hg3 hz2' (by simp)
            clear hp hrow2 hrow3 hg3
            go_wp2
            go_ret2
            exact ⟨rfl, hb3⟩
          · have hmn : m = n := by omega
            have ht0 : t.data.toList = [] := List.length_eq_zero_iff.1 (by rw [len_data]; omega)
            have HT : Hid (t.data.toList = []) := ht0
            clear ht0
            subst hmn
            go_enter Try.func23, Try.ntmps23
            go_wp2_with (at_make; refine wpList_make_full _ rfl (.tmp 27) (.tmp 27) 46 rfl w.heap.size 5 i0 (.int .u8 0) 1 Try.underlying46 hi hz0 hz1 .i64 .i64 _ _ m rfl rfl (by omega) (by omega) (by rw [hz2]; omega) (by unfold maxLen; omega) (Nat.le_refl _) ?_; intro w1 ho hg; rw [made_cells] at ho; have hrow := row_of_owns (by simp) ho; clear ho)
            refine (lay_any w.heap.size 0 m m _ s _ hrow (by omega) (by rw [List.length_replicate]; omega) (by omega)).mono ?_
            rintro e w2 ⟨rfl, hrow2, hg2⟩
            rw [over_pad _ _ (by rw [len_data]; omega)] at hrow2
            have hb2 := ((Below.refl _ _).grown hg (Nat.le_refl _) (by simp)).grown hg2 (by have := hg.size; omega) (by simp)
            have hz2' : w.heap.size ≤ w2.heap.size := hb2.size
            clear hrow hg hg2
            go_wp2_with fail
            refine (lay_any w.heap.size 0 0 0 _ t _ hrow2 (by omega) (by rw [pad_length _ _ (by rw [len_data]; omega)]; omega) (by omega)).mono ?_
            rintro e w3 ⟨rfl, hrow3, hg3⟩
            have hp : M.over (pad s.data.toList m) 0 t.data.toList = putL s.data.toList m t.data.toList := by
              rw [HQ.out, HT.out, M.over_nil, M.over_nil]
            rw [hp] at hrow3
            have hcv := hrow3.convert m m (by rw [← hp, M.over_length _ _ _ (by rw [pad_length _ _ (by rw [len_data]; omega), len_data]; omega), pad_length _ _ (by rw [len_data]; omega)])
            have hb3 := hb2.grown hg3 hz2' (by simp)
            clear hp hrow2 hrow3 hg3
            go_wp2
            go_ret2
            exact ⟨rfl, hb3⟩
        · have HQ : Hid (putL s.data.toList m t.data.toList = M.over (pad s.data.toList s.size) m t.data.toList) := HP s.size (by omega)
          clear HP
          by_cases h5 : m < s.size
          · go_enter Try.func23, Try.ntmps23
            go_wp2_with (at_make; refine wpList_make_full _ rfl (.tmp 27) (.tmp 27) 46 rfl w.heap.size 5 i0 (.int .u8 0) 1 Try.underlying46 hi hz0 hz1 .i64 .i64 _ _ s.size rfl rfl (by omega) (by omega) (by rw [hz2]; omega) (by unfold maxLen; omega) (Nat.le_refl _) ?_; intro w1 ho hg; rw [made_cells] at ho; have hrow := row_of_owns (by simp) ho; clear ho)
            refine (lay_any w.heap.size 0 s.size s.size _ s _ hrow (by omega) (by rw [List.length_replicate]; omega) (by omega)).mono ?_
            rintro e w2 ⟨rfl, hrow2, hg2⟩
            rw [over_pad _ _ (by rw [len_data]; omega)] at hrow2
            have hb2 := ((Below.refl _ _).grown hg (Nat.le_refl _) (by simp)).grown hg2 (by have := hg.size; omega) (by simp)
            have hz2' : w.heap.size ≤ w2.heap.size := hb2.size
            clear hrow hg hg2
            go_wp2_with fail
            refine (lay_any w.heap.size m (s.size - m) (s.size - m) _ t _ hrow2 (by omega) (by rw [pad_length _ _ (by rw [len_data]; omega)]; omega) (by omega)).mono ?_
            rintro e w3 ⟨rfl, hrow3, hg3⟩
            have hp : M.over (pad s.data.toList s.size) m t.data.toList = putL s.data.toList m t.data.toList := by
              exact HQ.out.symm
            rw [hp] at hrow3
            have hcv := hrow3.convert s.size s.size (by rw [← hp, M.over_length _ _ _ (by rw [pad_length _ _ (by rw [len_data]; omega), len_data]; omega), pad_length _ _ (by rw [len_data]; omega)])
            have hb3 := hb2.grown hg3 hz2' (by simp)
            clear hp hrow2 hrow3 hg3
            go_wp2
            go_ret2
            exact ⟨rfl, hb3⟩
          · have hmn : m = s.size := by omega
            have ht0 : t.data.toList = [] := List.length_eq_zero_iff.1 (by rw [len_data]; omega)
            have HT : Hid (t.data.toList = []) := ht0
            clear ht0
            subst hmn
            go_enter Try.func23, Try.ntmps23
            go_wp2_with (at_make; refine wpList_make_full _ rfl (.tmp 27) (.tmp 27) 46 rfl w.heap.size 5 i0 (.int .u8 0) 1 Try.underlying46 hi hz0 hz1 .i64 .i64 _ _ s.size rfl rfl (by omega) (by omega) (by rw [hz2]; omega) (by unfold maxLen; omega) (Nat.le_refl _) ?_; intro w1 ho hg; rw [made_cells] at ho; have hrow := row_of_owns (by simp) ho; clear ho)
            refine (lay_any w.heap.size 0 s.size s.size _ s _ hrow (by omega) (by rw [List.length_replicate]; omega) (by omega)).mono ?_
            rintro e w2 ⟨rfl, hrow2, hg2⟩
            rw [over_pad _ _ (by rw [len_data]; omega)] at hrow2
            have hb2 := ((Below.refl _ _).grown hg (Nat.le_refl _) (by simp)).grown hg2 (by have := hg.size; omega) (by simp)
            have hz2' : w.heap.size ≤ w2.heap.size := hb2.size
            clear hrow hg hg2
            go_wp2_with fail
            refine (lay_any w.heap.size 0 0 0 _ t _ hrow2 (by omega) (by rw [pad_length _ _ (by rw [len_data]; omega)]; omega) (by omega)).mono ?_
            rintro e w3 ⟨rfl, hrow3, hg3⟩
            have hp : M.over (pad s.data.toList s.size) 0 t.data.toList = putL s.data.toList s.size t.data.toList := by
              rw [HQ.out, HT.out, M.over_nil, M.over_nil]
            rw [hp] at hrow3
            have hcv := hrow3.convert s.size s.size (by rw [← hp, M.over_length _ _ _ (by rw [pad_length _ _ (by rw [len_data]; omega), len_data]; omega), pad_length _ _ (by rw [len_data]; omega)])
            have hb3 := hb2.grown hg3 hz2' (by simp)
            clear hp hrow2 hrow3 hg3
            go_wp2
            go_ret2
            exact ⟨rfl, hb3⟩

end Go.Proofs.Ytnflpmaeekgmjaa
