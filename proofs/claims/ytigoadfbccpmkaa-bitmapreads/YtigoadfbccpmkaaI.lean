/-
  A map's text.
-/
import Derived.Test.YtigoadfbccpmkaaH
namespace Go.Proofs.Ytigoadfbccpmkaa
open Go.RowKit
set_option linter.unusedVariables false

/-- The i-th byte of the text. -/
def bb (f : Nat → Bool) (i : Nat) : UInt8 := UInt8.ofNat (M.byt f i)
theorem bb_nat (f : Nat → Bool) (i : Nat) : (bb f i).toNat = M.byt f i := by
  have := M.byt_lt f i
  simp [bb, UInt8.toNat_ofNat']
  omega
def bytesTo (f : Nat → Bool) (t k : Nat) : List UInt8 := (List.range t).map fun i => if i < k then bb f i else 0
def textOf (f : Nat → Bool) (n : Nat) : List UInt8 := (List.range ((n + 7) / 8)).map (bb f)
theorem bytesTo_len (f : Nat → Bool) (t k : Nat) : (bytesTo f t k).length = t := by simp [bytesTo]
theorem bytesTo_zero (f : Nat → Bool) (t : Nat) : bytesTo f t 0 = List.replicate t 0 := by
  apply List.ext_getElem
  · simp [bytesTo]
  · intro i h1 h2; simp [bytesTo]
theorem bytesTo_all (f : Nat → Bool) (n : Nat) : bytesTo f ((n + 7) / 8) ((n + 7) / 8) = textOf f n := by
  apply List.map_congr_left
  intro i hi
  rw [if_pos (List.mem_range.1 hi)]
theorem bytesTo_set (f : Nat → Bool) (t k : Nat) (h : k < t) : (bytesTo f t k).set k (bb f k) = bytesTo f t (k + 1) := by
  apply List.ext_getElem
  · simp [bytesTo]
  · intro i h1 h2
    rw [List.getElem_set]
    simp only [bytesTo, List.getElem_map, List.getElem_range]
    by_cases e : k = i
    · subst e; simp
    · simp only [e, if_false]
      have : (i < k) = (i < k + 1) := by apply propext; constructor <;> intro h <;> omega
      simp only [this]
theorem text_bits (f : Nat → Bool) (k : Nat) : ((M.wd f (k * 8 / 64) : Int) / 2 ^ (k * 8 % 64)) % 256 = ((bb f k).toNat : Int) := by
  rw [bb_nat, ← M.wd_byt]
  simp
set_option maxRecDepth 100000 in
set_option maxHeartbeats 1000000 in
theorem text_any (b n : Nat) (f : Nat → Bool) (w : World) (h : MIs w b n f) :
    Calls Try.prog 23 #[.pointer (some ⟨b, 0, none⟩)] w fun e w' => e = .returned (.string (ofL (textOf f n))) ∧ Below w.heap.size w w' := by
  have hle := h.le
  have hlt := h.lt
  have c0 := h.c0
  obtain ⟨t, ht⟩ : ∃ t, t = (n + 7) / 8 := ⟨_, rfl⟩
  have ht2 : t ≤ 512 := by omega
  have hT := textLength_any n hle w
  have HA : Hid (bytesTo f t t = textOf f n) := by rw [ht]; exact bytesTo_all f n
  rw [← ht] at hT
  clear ht
  obtain ⟨i0, hi, hz0, hz1, hz2⟩ := info_parts Try.info5
  go_enter Try.func23, Try.ntmps23
  go_wp2_with fail
  refine hT.mono ?_
  rintro e w0 ⟨rfl, rfl⟩
  go_wp2_with (at_make; refine wpList_make_full _ rfl (.tmp 12) (.tmp 12) 71 rfl w0.heap.size 5 i0 (.int .u8 0) 1 Try.underlying71 hi hz0 hz1 .i64 .i64 _ _ t rfl rfl rfl rfl (by rw [hz2]; omega) (by unfold maxLen; omega) (Nat.le_refl _) ?_; intro w1 ho hg; rw [made_cells] at ho; have hrow := row_of_owns (by simp) ho; clear ho)
  have hb1 := (Below.refl w0.heap.size w0).grown hg (Nat.le_refl _) (by simp)
  go_loopw [16] (fun i wr => ∃ k : Nat, k ≤ t ∧ i = .int .i64 k ∧ Row wr w0.heap.size (bytesTo f t k) ∧ Below w0.heap.size w0 wr) (fun i _ => t - (intOf i).toNat)
  case atStart => exact ⟨0, Nat.zero_le _, rfl, by rw [bytesTo_zero]; exact hrow, hb1⟩
  case round =>
    obtain ⟨k, hk, rfl, hrow', hbel⟩ := hrel
    clear hrow hb1 hg c0
    have hm := h.below hbel
    by_cases hlk : k < t
    · have hq : k * 8 / 64 < 64 := by omega
      have cw := hm.cw _ hq
      have hz := text_bits f k
      have HB : Hid (Below w0.heap.size w0 (wr.setCell ⟨w0.heap.size, k, none⟩ (.int .u8 ((bb f k).toNat : Int)))) := hbel.setCell (Nat.le_refl _) _
      have HR : Hid (Row (wr.setCell ⟨w0.heap.size, k, none⟩ (.int .u8 ((bb f k).toNat : Int))) w0.heap.size (bytesTo f t (k + 1))) := by
        show Row _ _ _
        rw [← bytesTo_set f t k hlk]
        exact hrow'.set k _
      have hf := hrow'.free k
      obtain ⟨v, hv⟩ : ∃ v, wr.cell? ⟨w0.heap.size, k, none⟩ = some v := ⟨_, hrow'.cell k (by rw [bytesTo_len]; exact hlk)⟩
      generalize bb f k = c at *
      generalize M.wd f (k * 8 / 64) = x at *
      clear hrow' hbel hm
      go_wp2
      go_roundw
      case rel => exact ⟨k + 1, by omega, by go_num, HR.out, HB.out⟩
      case measure => simp [intOf]; omega
    · have hkt : k = t := by omega
      subst hkt
      rw [HA.out] at hrow'
      have hcv := hrow'.convert k k (by rw [← HA.out, bytesTo_len])
      go_wp2
      go_ret
      exact ⟨rfl, hbel⟩
set_option maxHeartbeats 400000 in
theorem text_nil (w : World) :
    Calls Try.prog 23 #[.pointer none] w fun e w' => e = .returned (.string ByteArray.empty) ∧ w' = w := by
  go_enter Try.func23, Try.ntmps23
  go_wp2
  go_ret
  exact ⟨rfl, rfl⟩
end Go.Proofs.Ytigoadfbccpmkaa
