/-
  The document's pieces of a text: the same texts, or the same error, as the plain functions of the text G say. For every text of at most 2^17 bytes; nothing that was there is written.
-/
import Derived.Test.YtnflpmaeekgmjaaG
namespace Go.Proofs.Ytnflpmaeekgmjaa
open Go.RowKit
set_option linter.unusedVariables false

theorem padOut_ok (x : ByteArray) (m : Nat) (h1 : m ≤ 65536) (h2 : x.size ≤ m) : padOut x (m : Int) = (ofL (pad x.data.toList m), 0) := by
  unfold padOut
  rw [if_neg (by omega), if_neg (by omega), Int.toNat_natCast]

theorem pieces_snoc (s : ByteArray) (n k : Nat) (h : k < count s n) : ((pieces s n).take (k + 1)).map Value.string = ((pieces s n).take k).map Value.string ++ [.string (piece s n k)] := by
  rw [M.take_snoc _ k (by rw [pieces_length]; exact h)]
  simp [pieces]

theorem owns_done {w w' : World} {v : Value} {k : Nat} {l : List ByteArray} (h : w'.ownsRow w.heap.size 9 1 v k (l.map Value.string)) (hl : l.length = k) (hb : Below w.heap.size w w') (x : Int) :
    CutDone w l x (.returned (.tuple #[v, .int .i64 x])) w' := by
  rcases h.2 with ⟨rfl, h0⟩ | ⟨g, cap, cur, rfl, hb', hh, hc, hm, hs, ht⟩
  · have e : l = [] := List.length_eq_zero_iff.1 (by omega)
    subst e
    exact ⟨none, 0, rfl, fun j h => by simp at h, hb⟩
  · subst hl
    refine ⟨some ⟨g, 0, none⟩, cap, rfl, fun j hj => ⟨g, 0, rfl, ?_⟩, hb⟩
    rw [Nat.zero_add]
    have := h.cells (g := g) rfl j (.string l[j]) (by simp [hj])
    rwa [show ((⟨g, 0, none⟩ : Addr).add j) = ⟨g, j, none⟩ by unfold Addr.add; split <;> simp_all] at this

theorem owns_below {w w' : World} {base n : Nat} {e : TypeId} {size : Nat} {v : Value} {xs : List Value} (h : w.ownsRow base e size v n xs) (hb : Below w.heap.size w w') : w'.ownsRow base e size v n xs :=
  h.kept (row := none) ⟨hb.os, hb.tape, hb.output, hb.size, fun k hk _ => hb.block k hk⟩ (by cases v.ownBlock <;> simp)

set_option maxHeartbeats 1000000 in
theorem refCut_any (s : ByteArray) (n : Int) (w : World) (hs : s.size ≤ 131072) (hn : -9223372036854775808 ≤ n ∧ n ≤ 9223372036854775807) :
    Calls Try.prog 21 #[.string s, .int .i64 n] w (CutDone w (cutOut s n).1 (cutOut s n).2) := by
  by_cases h1 : n < 1
  · have e : cutOut s n = ([], 1) := by simp [cutOut, h1]
    rw [e]
    have hd : decide (n < 1) = true := by simpa using h1
    go_enter Try.func21, Try.ntmps21
    go_wp2
    go_ret2
    exact cutDone_none _ _
  · by_cases h2 : n > 65536
    · have e : cutOut s n = ([], 1) := by simp [cutOut, h2]
      rw [e]
      have hd : decide (n < 1) = false := by simpa using h1
      go_enter Try.func21, Try.ntmps21
      go_wp2
      go_ret2
      exact cutDone_none _ _
    · have e : cutOut s n = (pieces s n.toNat, 0) := by simp [cutOut, h1, h2]
      rw [e]
      clear e
      obtain ⟨m, rfl⟩ := Int.eq_ofNat_of_zero_le (show 0 ≤ n by omega)
      rw [Int.toNat_natCast]
      have hcl := count_le s m (by omega)
      have HLT := lt_count s m
      obtain ⟨i0, hi, hz0, hz1, hz2⟩ := info_parts Try.info9
      have HM : 1 ≤ m := by omega
      have HH : Hid (∀ k, 1 ≤ m → (k < count s m ↔ k * m < s.size)) := HLT
      clear HLT
      go_enter Try.func21, Try.ntmps21
      go_wp2
      go_loopw [6, 7] (fun v i wr => ∃ k : Nat, k ≤ count s m ∧ i = .int .i64 ((k * m : Nat) : Int) ∧ wr.ownsRow w.heap.size 9 1 v k (((pieces s m).take k).map Value.string) ∧ Below w.heap.size w wr) (fun _ i _ => s.size - (intOf i).toNat)
      case atStart => exact ⟨0, Nat.zero_le _, by rw [Nat.zero_mul]; rfl, World.ownsRow_nil _ _ _ _, Below.refl _ _⟩
      case round =>
        obtain ⟨k, hk, rfl, hown, hbel⟩ := hrel
        have hle := hbel.size
        by_cases hlt : k * m < s.size
        · have hkc : k < count s m := (HH.out k HM).2 hlt
          have HP : Hid (piece s m k = ofL (pad ((s.data.toList.drop (k * m)).take m) m)) := rfl
          have HS : Hid (((pieces s m).take (k + 1)).map Value.string = ((pieces s m).take k).map Value.string ++ [.string (piece s m k)]) := pieces_snoc s m k hkc
          have HK : Hid ((k + 1) * m = k * m + m) := by show _ = _; rw [Nat.add_mul, Nat.one_mul]
          generalize hf : k * m = f at *
          generalize piece s m k = pc at *
          clear hf
          by_cases hfm : f + m ≤ s.size
          · have hpo := padOut_ok (s.extract f (f + m)) m (by omega) (by rw [ByteArray.size_extract]; omega)
            have hp2 : ofL (pad (s.extract f (f + m)).data.toList m) = pc := by
              rw [HP.out, extract_list s f (f + m) (by omega)]
              rw [Nat.add_sub_cancel_left]
            rw [hp2] at hpo
            have HPO : Hid (padOut (s.extract f (f + m)) (m : Int) = (pc, 0)) := hpo
            clear hp2 hpo
            go_wp2_with fail
            refine (refPad_any (s.extract f (f + m)) m _ (by rw [ByteArray.size_extract]; unfold maxLen; omega) (by omega)).mono ?_
            rintro e w2 ⟨rfl, hb2⟩
            rw [HPO.out]
            have hown2 := owns_below hown hb2
            have hz : w.heap.size ≤ w2.heap.size := Nat.le_trans hle hb2.size
            have hbel2 := hbel.trans (hb2.mono hle)
            clear hown
            go_wp2_with (at_builtin; refine wpList_append_own _ rfl _ _ 22 rfl w.heap.size 9 i0 (.string ByteArray.empty) 1 16 Try.underlying22 hi hz0 hz1 hz2 rfl (by decide) _ _ _ rfl (hown2.alloc _) ⟨w2.heap.size, 0, none⟩ 1 1 [.string pc] rfl rfl (cell_one_new _ _ _) (by simp; rfl) (by unfold maxLen; omega) (by omega) (by simp; omega) ?_; intro v' w1 hown' hgrow hnil)
            rw [← HS.out] at hown'
            have hb3 := (hbel2.alloc hz _).grown hgrow (by simp; omega) (fun j hj => (hown2.lt j hj).1)
            clear hown2 hgrow
            go_wp2
            go_roundw
            case rel => exact ⟨k + 1, by omega, by rw [HK.out]; go_num, hown', hb3⟩
            case measure => simp [intOf]; omega
          · have hpo := padOut_ok (s.extract f s.size) m (by omega) (by rw [ByteArray.size_extract]; omega)
            have hp2 : ofL (pad (s.extract f s.size).data.toList m) = pc := by
              rw [HP.out, extract_list s f s.size (by omega)]
              rw [List.take_of_length_le (by rw [List.length_drop, len_data]; omega), List.take_of_length_le (by rw [List.length_drop, len_data]; omega)]
            rw [hp2] at hpo
            have HPO : Hid (padOut (s.extract f s.size) (m : Int) = (pc, 0)) := hpo
            clear hp2 hpo
            go_wp2_with fail
            refine (refPad_any (s.extract f s.size) m _ (by rw [ByteArray.size_extract]; unfold maxLen; omega) (by omega)).mono ?_
            rintro e w2 ⟨rfl, hb2⟩
            rw [HPO.out]
            have hown2 := owns_below hown hb2
            have hz : w.heap.size ≤ w2.heap.size := Nat.le_trans hle hb2.size
            have hbel2 := hbel.trans (hb2.mono hle)
            clear hown
            go_wp2_with (at_builtin; refine wpList_append_own _ rfl _ _ 22 rfl w.heap.size 9 i0 (.string ByteArray.empty) 1 16 Try.underlying22 hi hz0 hz1 hz2 rfl (by decide) _ _ _ rfl (hown2.alloc _) ⟨w2.heap.size, 0, none⟩ 1 1 [.string pc] rfl rfl (cell_one_new _ _ _) (by simp; rfl) (by unfold maxLen; omega) (by omega) (by simp; omega) ?_; intro v' w1 hown' hgrow hnil)
            rw [← HS.out] at hown'
            have hb3 := (hbel2.alloc hz _).grown hgrow (by simp; omega) (fun j hj => (hown2.lt j hj).1)
            clear hown2 hgrow
            go_wp2
            go_roundw
            case rel => exact ⟨k + 1, by omega, by rw [HK.out]; go_num, hown', hb3⟩
            case measure => simp [intOf]; omega
        · have hkc : k = count s m := by
            have := (HH.out k HM)
            omega
          have HKC : Hid (k = count s m) := hkc
          rw [List.take_of_length_le (by rw [pieces_length]; omega)] at hown
          generalize k * m = f at *
          clear hkc
          go_wp2
          go_ret2
          exact owns_done hown (by rw [pieces_length, HKC.out]) hbel 0

end Go.Proofs.Ytnflpmaeekgmjaa
