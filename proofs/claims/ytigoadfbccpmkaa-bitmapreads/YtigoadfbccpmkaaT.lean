/-
  The document's answer: the map of a text.
-/
import Derived.Test.YtigoadfbccpmkaaS
namespace Go.Proofs.Ytigoadfbccpmkaa
open Go.RowKit
set_option linter.unusedVariables false

/-- What the document's Read answers. -/
def RRead (w : World) (l : List UInt8) (n : Int) (e : Ending) (w' : World) : Prop :=
  Below w.heap.size w w' ∧ if rdE l n = 0 then ∃ a cap, e = .returned (.tuple #[.slice a n.toNat cap, .int .i64 0]) ∧ At w' a Value.bool (bl n.toNat (fs l)) else e = .returned (.tuple #[.slice none 0 0, .int .i64 (rdE l n)])
theorem rread_err {w w' : World} {l : List UInt8} {n x : Int} (hb : Below w.heap.size w w') (h : rdE l n = x) (hx : x ≠ 0) : RRead w l n (.returned (.tuple #[.slice none 0 0, .int .i64 x])) w' :=
  ⟨hb, by rw [if_neg (by rw [h]; exact hx), h]⟩
theorem rdE_three (l : List UInt8) (m i : Nat) (hm : m ≤ 4096) (hl : l.length = (m + 7) / 8) (hi : m ≤ i) (hb : fs l i = true) : rdE l (m : Int) = 3 := by
  have he : eqw (M.andf (fs l) (M.rowf 0 m)) (fs l) = false := by
    cases h : eqw (M.andf (fs l) (M.rowf 0 m)) (fs l)
    · rfl
    · rw [fs_in l m hm hl h i hi] at hb; cases hb
  rw [rdE, if_neg (by omega), if_neg (by simp; omega), show ((m : Int)).toNat = m from rfl, he]
  rfl
theorem rdE_zero (l : List UInt8) (m : Nat) (hm : m ≤ 4096) (hl : l.length = (m + 7) / 8) (hb : ∀ i, m ≤ i → fs l i = false) : rdE l (m : Int) = 0 := by
  have he : eqw (M.andf (fs l) (M.rowf 0 m)) (fs l) = true := by
    rw [eqw_iff]
    intro i _
    by_cases h : i < m
    · simp [M.andf, M.rowf, h]
    · simp [M.andf, hb i (by omega)]
  rw [rdE, if_neg (by omega), if_neg (by simp; omega), show ((m : Int)).toNat = m from rfl, he]
  rfl

theorem bit_and (s : ByteArray) (i : Nat) (h : i / 8 < s.size) : bits .and .u8 ((s[i / 8].toNat : Int) / 2 ^ (i % 8)) 1 = if fs s.data.toList i then 1 else 0 := by
  rw [← bit_of s i h]
  have hb : s[i / 8].toNat < 256 := s[i / 8].toNat_lt
  have a := u8_and_nat (s[i / 8].toNat / 2 ^ (i % 8)) 1 (Nat.lt_of_le_of_lt (Nat.div_le_self _ _) hb) (by decide)
  have e : ((s[i / 8].toNat : Int) / 2 ^ (i % 8)) = ((s[i / 8].toNat / 2 ^ (i % 8) : Nat) : Int) := by simp
  rw [e]
  simp only [Int.cast_ofNat_Int] at a
  rw [a, Nat.and_one_is_mod]
  omega
set_option maxRecDepth 100000 in
set_option maxHeartbeats 1000000 in
theorem refRead_any (s : ByteArray) (n : Int) (w : World) (hs : s.size ≤ 2000) : Calls Try.prog 29 #[.string s, .int .i64 n] w (RRead w s.data.toList n) := by
  by_cases h1 : n < 0
  · have HE : Hid (rdE s.data.toList n = 1) := by show _ = _; rw [rdE, if_pos (.inl h1)]
    have hd : decide (n < 0) = true := by simpa using h1
    go_enter Try.func29, Try.ntmps29
    go_wp2
    go_ret2
    exact rread_err (Below.refl _ _) HE.out (by decide)
  have hd : decide (n < 0) = false := by simpa using h1
  by_cases h2 : 4096 < n
  · have HE : Hid (rdE s.data.toList n = 1) := by show _ = _; rw [rdE, if_pos (.inr h2)]
    have hd2 : decide (4096 < n) = true := by simpa using h2
    go_enter Try.func29, Try.ntmps29
    go_wp2
    go_ret2
    exact rread_err (Below.refl _ _) HE.out (by decide)
  have hd2 : decide (4096 < n) = false := by simpa using h2
  obtain ⟨m, rfl⟩ := Int.eq_ofNat_of_zero_le (show 0 ≤ n by omega)
  have hm : m ≤ 4096 := by omega
  obtain ⟨t, ht⟩ : ∃ t, t = (m + 7) / 8 := ⟨_, rfl⟩
  by_cases h3 : s.size = t
  · have htd : ((m : Int) + 7) / 8 = (s.size : Int) := by omega
    have hms : m ≤ 8 * s.size := by omega
    have HZ : Hid ((∀ i, m ≤ i → fs s.data.toList i = false) → rdE s.data.toList (m : Int) = 0) := rdE_zero _ m hm (by rw [len_data]; omega)
    have H3 : Hid (∀ i, m ≤ i → fs s.data.toList i = true → rdE s.data.toList (m : Int) = 3) := fun i hi hb => rdE_three _ m i hm (by rw [len_data]; omega) hi hb
    have HOF : Hid (∀ i, 8 * s.size ≤ i → fs s.data.toList i = false) := fun i hi => fs_off _ i (by rw [len_data]; exact hi)
    have HBI : Hid (∀ i (h : i / 8 < s.size), bits .and .u8 ((s[i / 8].toNat : Int) / 2 ^ (i % 8)) 1 = if fs s.data.toList i then 1 else 0) := fun i h => bit_and s i h
    obtain ⟨i0, hi, hz0, hz1, hz2⟩ := info_parts Try.info4
    clear ht h3
    go_enter Try.func29, Try.ntmps29
    go_wp2_with (at_make; refine wpList_make_full _ rfl (.tmp 20) (.tmp 20) 26 rfl w.heap.size 4 i0 (.bool false) 1 Try.underlying26 hi hz0 hz1 .i64 .i64 _ _ m rfl rfl rfl rfl (by rw [hz2]; omega) (by unfold maxLen; omega) (Nat.le_refl _) ?_; intro w1 ho hg; rw [made_bools] at ho; have hrow := rowB_of_owns (by simp) ho; clear ho)
    have hb1 := (Below.refl w.heap.size w).grown hg (Nat.le_refl _) (by simp)
    clear hi hz0 hz1 hz2 hg
    go_loopw [7] (fun i wr => ∃ k : Nat, k ≤ 8 * s.size ∧ i = .int .i64 k ∧ Hid (RowB wr w.heap.size (bl m (upto (fs s.data.toList) k))) ∧ Below w.heap.size w wr ∧ Hid (∀ j, m ≤ j → j < k → fs s.data.toList j = false)) (fun i _ => 8 * s.size - (intOf i).toNat)
    case atStart => exact ⟨0, by omega, rfl, by rw [upto_zero]; exact hrow, hb1, fun j _ h => by omega⟩
    case round =>
      obtain ⟨k, hk, rfl, hrow', hbel, HN⟩ := hrel
      clear hrow hb1
      by_cases hlt : k < 8 * s.size
      · have hq : k / 8 < s.size := by omega
        have hbit := HBI.out k hq
        have hbl : s[k / 8].toNat < 256 := s[k / 8].toNat_lt
        clear HBI
        cases hfk : fs s.data.toList k
        · rw [hfk] at hbit
          simp only [Bool.false_eq_true, if_false] at hbit
          have HR : Hid (RowB wr w.heap.size (bl m (upto (fs s.data.toList) (k + 1)))) := by
            have := hrow'.out
            rw [upto_skip _ m k hfk] at this
            exact this
          have HN2 : Hid (∀ j, m ≤ j → j < k + 1 → fs s.data.toList j = false) := fun j h1 h2 => by
            by_cases e : j = k
            · subst e; exact hfk
            · exact HN.out j h1 (by omega)
          clear hrow' HN hfk
          go_wp2
          go_roundw
          case rel => exact ⟨k + 1, by omega, by go_num, HR, hbel, HN2⟩
          case measure => simp [intOf]; omega
        · rw [hfk] at hbit
          simp only [if_true] at hbit
          by_cases hkm : m ≤ k
          · have HE : Hid (rdE s.data.toList (m : Int) = 3) := H3.out k hkm hfk
            have hkm' : decide (m ≤ k) = true := by simpa using hkm
            clear hrow' HN hfk
            go_wp2
            go_ret2
            exact rread_err hbel HE.out (by decide)
          · have hkm' : decide (m ≤ k) = false := by simpa using hkm
            have hkl : k < m := by omega
            obtain ⟨v, hv⟩ : ∃ v, wr.cell? ⟨w.heap.size, k, none⟩ = some v := ⟨_, hrow'.out.cell k (by rw [bl_len]; exact hkl)⟩
            have hfr := hrow'.out.free k
            have HR : Hid (RowB (wr.setCell ⟨w.heap.size, k, none⟩ (.bool true)) w.heap.size (bl m (upto (fs s.data.toList) (k + 1)))) := by
              have := hrow'.out.set k true
              rw [upto_set _ m k hfk] at this
              exact this
            have HB : Hid (Below w.heap.size w (wr.setCell ⟨w.heap.size, k, none⟩ (.bool true))) := hbel.setCell (Nat.le_refl _) _
            have HN2 : Hid (∀ j, m ≤ j → j < k + 1 → fs s.data.toList j = false) := fun j h1 h2 => HN.out j h1 (by omega)
            clear hrow' HN hfk hbel
            go_wp2
            go_roundw
            case rel => exact ⟨k + 1, by omega, by go_num, HR, HB.out, HN2⟩
            case measure => simp [intOf]; omega
      · have HR : Hid (RowB wr w.heap.size (bl m (fs s.data.toList))) := by
          have := hrow'.out
          rw [upto_all _ m k (fun i hi => HOF.out i (by omega))] at this
          exact this
        have HE : Hid (rdE s.data.toList (m : Int) = 0) := HZ.out fun i hi => by
          rcases Nat.lt_or_ge i k with h | h
          · exact HN.out i hi h
          · exact HOF.out i (by omega)
        go_wp2
        go_ret2
        refine ⟨hbel, ?_⟩
        rw [if_pos HE.out]
        exact ⟨_, _, rfl, HR.out.at⟩
  · have htd : ((m : Int) + 7) / 8 = (t : Int) := by omega
    have hneq : ((s.size : Int) != (t : Int)) = true := by simp; omega
    have HE : Hid (rdE s.data.toList (m : Int) = 2) := by
      show _ = _
      rw [rdE, if_neg (by omega), if_pos (by rw [len_data]; simp; omega)]
    clear ht h3
    go_enter Try.func29, Try.ntmps29
    go_wp2
    go_ret2
    exact rread_err (Below.refl _ _) HE.out (by decide)
end Go.Proofs.Ytigoadfbccpmkaa
