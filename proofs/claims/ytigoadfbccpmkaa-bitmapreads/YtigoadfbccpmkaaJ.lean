/-
  The bits of a text.
-/
import Derived.Test.YtigoadfbccpmkaaI
namespace Go.Proofs.Ytigoadfbccpmkaa
open Go.RowKit
set_option linter.unusedVariables false

/-- The bits of a text. -/
def fs (l : List UInt8) (i : Nat) : Bool := (l.getD (i / 8) 0).toNat.testBit (i % 8)
def partf (l : List UInt8) (k : Nat) : Nat → Bool := fun i => decide (i < 8 * k) && fs l i
theorem fs_off (l : List UInt8) (i : Nat) (h : 8 * l.length ≤ i) : fs l i = false := by
  unfold fs
  rw [List.getD_eq_getElem?_getD, List.getElem?_eq_none (by omega)]
  simp
theorem partf_all (l : List UInt8) (k : Nat) (h : l.length ≤ k) : partf l k = fs l := by
  funext i
  unfold partf
  by_cases hi : i < 8 * k
  · simp [hi]
  · simp [hi, fs_off l i (by omega)]
theorem partf_zero (l : List UInt8) : partf l 0 = M.nof := by funext i; simp [partf, M.nof]
theorem partf_wd (l : List UInt8) (k : Nat) : M.wd (partf l k) (k / 8) ||| ((l.getD k 0).toNat * 2 ^ (k % 8 * 8)) = M.wd (partf l (k + 1)) (k / 8) := by
  have hc : (l.getD k 0).toNat < 256 := (l.getD k 0).toNat_lt
  have hs : k % 8 * 8 ≤ 56 := by omega
  refine M.wd_eq _ _ _ (Nat.or_lt_two_pow (n := 64) (M.wd_lt _ _) ?_) fun j hj => ?_
  · calc (l.getD k 0).toNat * 2 ^ (k % 8 * 8) < 2 ^ 8 * 2 ^ (k % 8 * 8) := Nat.mul_lt_mul_of_pos_right hc (Nat.two_pow_pos _)
      _ = 2 ^ (8 + k % 8 * 8) := (Nat.pow_add 2 8 _).symm
      _ ≤ 2 ^ 64 := Nat.pow_le_pow_right (by decide) (by omega)
  · rw [Nat.testBit_or, M.wd_bit _ _ _ hj, ← Nat.shiftLeft_eq, Nat.testBit_shiftLeft]
    simp only [partf]
    by_cases h1 : 64 * (k / 8) + j < 8 * k
    · have h2 : 64 * (k / 8) + j < 8 * (k + 1) := by omega
      have h3 : ¬ (j ≥ k % 8 * 8) := by omega
      simp [h1, h2, h3]
    · by_cases h2 : 64 * (k / 8) + j < 8 * (k + 1)
      · have h3 : j ≥ k % 8 * 8 := by omega
        simp only [h1, h2, h3, decide_true, decide_false, Bool.false_and, Bool.true_and, Bool.false_or]
        unfold fs
        rw [show (64 * (k / 8) + j) / 8 = k by omega, show (64 * (k / 8) + j) % 8 = j - k % 8 * 8 by omega]
      · have h3 : (l.getD k 0).toNat.testBit (j - k % 8 * 8) = false := Nat.testBit_lt_two_pow (Nat.lt_of_lt_of_le hc (Nat.pow_le_pow_right (n := 2) (i := 8) (by decide) (by omega)))
        simp only [h1, h2, h3, decide_false, Bool.false_and, Bool.and_false, Bool.or_false]
theorem partf_oth (l : List UInt8) (k j : Nat) (h : j ≠ k / 8) : M.wd (partf l k) j = M.wd (partf l (k + 1)) j := by
  refine M.wd_congr _ _ _ fun i hi => ?_
  unfold partf
  have : (64 * j + i < 8 * k) = (64 * j + i < 8 * (k + 1)) := by apply propext; constructor <;> intro h <;> omega
  simp only [this]
theorem or_byte (l : List UInt8) (i j : Nat) (hj : j < 8) (c : Nat) (hc : c = (l.getD (8 * i + j) 0).toNat) : bits .or .u64 (M.wd (partf l (8 * i + j)) i : Int) (IntKind.u64.wrap ((c : Int) * 2 ^ (j * 8))) = (M.wd (partf l (8 * i + j + 1)) i : Int) := by
  have h := partf_wd l (8 * i + j)
  rw [show (8 * i + j) / 8 = i by omega, show (8 * i + j) % 8 = j by omega, ← hc] at h
  have hlt : c * 2 ^ (j * 8) < 18446744073709551616 := by
    have hc' : c < 256 := by rw [hc]; exact (l.getD (8 * i + j) 0).toNat_lt
    calc c * 2 ^ (j * 8) < 2 ^ 8 * 2 ^ (j * 8) := Nat.mul_lt_mul_of_pos_right hc' (Nat.two_pow_pos _)
      _ = 2 ^ (8 + j * 8) := (Nat.pow_add 2 8 _).symm
      _ ≤ 2 ^ 64 := Nat.pow_le_pow_right (by decide) (by omega)
  have e : ((c : Int) * 2 ^ (j * 8)) = ((c * 2 ^ (j * 8) : Nat) : Int) := by simp
  rw [e, wrap_id _ hlt, u64_or_nat _ _ (M.wd_lt _ _) hlt, h]
theorem piece_size (s : ByteArray) (i : Nat) : (piece s 8 i).size = 8 := by
  unfold piece
  rw [ofL_size]
  simp [pad]
  omega
theorem ofL_get (l : List UInt8) (j : Nat) (h : j < (ofL l).size) : (ofL l)[j] = l.getD j 0 := by
  have hl : j < l.length := by rw [← ofL_size]; exact h
  rw [List.getD_eq_getElem?_getD, List.getElem?_eq_getElem hl]
  rfl
theorem piece_get (s : ByteArray) (i j : Nat) (hj : j < 8) (h : j < (piece s 8 i).size) : (piece s 8 i)[j].toNat = (s.data.toList.getD (8 * i + j) 0).toNat := by
  have e : (piece s 8 i)[j] = (pad ((s.data.toList.drop (i * 8)).take 8) 8).getD j 0 := ofL_get _ j h
  rw [e]
  congr 1
  unfold pad
  simp only [List.getD_eq_getElem?_getD, List.getElem?_append, List.getElem?_replicate, List.getElem?_take, List.getElem?_drop, List.length_take, List.length_drop]
  rw [show i * 8 + j = 8 * i + j by omega]
  by_cases h1 : 8 * i + j < s.data.toList.length
  · rw [if_pos (by omega)]
    simp [hj]
  · rw [if_neg (by omega), List.getElem?_eq_none (show s.data.toList.length ≤ 8 * i + j by omega)]
    split <;> rfl
theorem WA_int (f : Nat → Bool) (j : Nat) (t : ByteArray) : (WA f)[j]? ≠ some (.string t) := by
  by_cases h : j < 64
  · rw [WA_get f j h]; simp
  · rw [Array.getElem?_eq_none (by rw [WA_size]; omega)]; simp
theorem Texts.set64 {w : World} {a : Option Addr} {l : List ByteArray} (h : Texts w a l) {g k : Nat} {f : Nat → Bool} (hg : w.heap[g]? = some (.cells (WA f) 64 (0, 0))) (v : Value) : Texts (w.setCell ⟨g, k, none⟩ v) a l := by
  intro j hj
  obtain ⟨b, off, rfl, hc⟩ := h j hj
  have hne : b ≠ g := by
    rintro rfl
    rw [cell_of_row w b (off + j) _ _ _ hg] at hc
    exact WA_int f _ _ hc
  exact ⟨b, off, rfl, (World.cell?_of_block (w := w) (a := ⟨b, off + j, none⟩) (heap_setCell_other w ⟨g, k, none⟩ b v hne)).trans hc⟩
theorem Texts.drew {w : World} {a : Option Addr} {l : List ByteArray} (h : Texts w a l) : Texts w.drew a l := h

set_option maxRecDepth 100000 in
set_option maxHeartbeats 2000000 in
theorem parse_any (s : ByteArray) (w : World) (hs : s.size ≤ 512) :
    Calls Try.prog 39 #[.string s] w fun e w' => e = .returned (.agg (WA (fs s.data.toList))) ∧ Below w.heap.size w w' := by
  have hC := fun w' => cut_any s 8 w' (by omega) (by decide)
  rw [show cutOut s 8 = (pieces s 8, 0) by simp [cutOut]] at hC
  have hcnt : count s 8 = (s.size + 7) / 8 := rfl
  have hpl := pieces_length s 8
  have HPG : Hid (∀ i (h : i < (pieces s 8).length), (pieces s 8)[i] = piece s 8 i) := fun i h => by simp [pieces]
  have HALL : Hid (partf s.data.toList (8 * (pieces s 8).length) = fs s.data.toList) := partf_all _ _ (by rw [hpl, hcnt, len_data]; omega)
  have hpl64 : (pieces s 8).length ≤ 64 := by omega
  generalize pieces s 8 = l at *
  go_enter Try.func39, Try.ntmps39
  go_wp2_with fail
  refine (hC _).mono ?_
  rintro e w1 h
  obtain ⟨a, cap, rfl, hT, hb1⟩ := h
  have u := up2 w (.cells (WA M.nof) 64) (.cells (WA M.nof) 64)
  have g0 := (hb1.block w.heap.size (by simp; omega)).trans u.1
  have g1 := (hb1.block (w.heap.size + 1) (by simp)).trans u.2
  have B1 : Below w.heap.size w w1 := (((Below.refl w.heap.size w).alloc (Nat.le_refl _) _).alloc (by simp) _).trans (hb1.mono (by simp; omega))
  clear hb1 hC u
  go_wp2
  go_loopw [16] (fun i wr => ∃ k : Nat, k ≤ l.length ∧ i = .int .i64 k ∧ Below w.heap.size w wr ∧ Texts wr a l ∧ wr.heap[w.heap.size]? = some (.cells (WA M.nof) 64 (0, 0)) ∧ wr.heap[w.heap.size + 1]? = some (.cells (WA (partf s.data.toList (8 * k))) 64 (0, 0))) (fun i _ => l.length - (intOf i).toNat)
  case atStart => exact ⟨0, by omega, rfl, B1, hT, g0, by rw [partf_zero]; exact g1⟩
  case round =>
    obtain ⟨k, hk, rfl, hbel, hT', g0', g1'⟩ := hrel
    clear hT g0 g1 B1
    by_cases hlt : k < l.length
    · obtain ⟨tb, to, rfl, hc⟩ := hT' k hlt
      rw [HPG.out k hlt] at hc
      have hps := piece_size s k
      have HPC : Hid (∀ j (hj : j < 8) (h : j < (piece s 8 k).size), (piece s 8 k)[j].toNat = (s.data.toList.getD (8 * k + j) 0).toNat) := fun j hj h => piece_get s k j hj h
      generalize piece s 8 k = pc at *
      go_wp2
      go_loopw [23] (fun i wx => ∃ j : Nat, j ≤ 8 ∧ i = .int .i64 j ∧ Below w.heap.size w wx ∧ Texts wx (some ⟨tb, to, none⟩) l ∧ wx.heap[w.heap.size]? = some (.cells (WA M.nof) 64 (0, 0)) ∧ wx.heap[w.heap.size + 1]? = some (.cells (WA (partf s.data.toList (8 * k + j))) 64 (0, 0))) (fun i _ => 8 - (intOf i).toNat)
      case atStart => exact ⟨0, by omega, rfl, hbel, hT', g0', g1'⟩
      case round =>
        obtain ⟨j, hj, rfl, hb2, hT2, g02, g12⟩ := hrel
        clear hbel hT' g0' g1' hc
        by_cases hj8 : j < 8
        · have hjs : j < pc.size := by omega
          have hk64 : k < 64 := by omega
          have c1 := (cell_of_row wr _ k _ _ _ g12).trans (WA_get _ k hk64)
          have f1 := frozen_of_row wr _ k _ _ g12
          have hpb : pc[j].toNat < 256 := pc[j].toNat_lt
          have hz := or_byte s.data.toList k j hj8 pc[j].toNat (HPC.out j hj8 hjs)
          have HB : Hid (Below w.heap.size w (wr.setCell ⟨w.heap.size + 1, k, none⟩ (.int .u64 (M.wd (partf s.data.toList (8 * k + j + 1)) k)))) := hb2.setCell (by simp) _
          have HT : Hid (Texts (wr.setCell ⟨w.heap.size + 1, k, none⟩ (.int .u64 (M.wd (partf s.data.toList (8 * k + j + 1)) k))) (some ⟨tb, to, none⟩) l) := hT2.set64 g12 _
          have H0 : Hid ((wr.setCell ⟨w.heap.size + 1, k, none⟩ (.int .u64 (M.wd (partf s.data.toList (8 * k + j + 1)) k))).heap[w.heap.size]? = some (.cells (WA M.nof) 64 (0, 0))) := (heap_setCell_other wr _ _ _ (by simp)).trans g02
          have H1 : Hid ((wr.setCell ⟨w.heap.size + 1, k, none⟩ (.int .u64 (M.wd (partf s.data.toList (8 * k + j + 1)) k))).heap[w.heap.size + 1]? = some (.cells (WA (partf s.data.toList (8 * k + (j + 1)))) 64 (0, 0))) := by
            show _ = _
            rw [heap_setCell_same wr _ _ _ _ _ g12, WA_set _ (partf s.data.toList (8 * k + j + 1)) k _ hk64 (fun i _ hi => partf_oth _ _ i (by omega)) rfl]
            rfl
          generalize M.wd (partf s.data.toList (8 * k + j + 1)) k = z at *
          generalize M.wd (partf s.data.toList (8 * k + j)) k = x at *
          clear g02 g12 hb2 hT2 HPC
          go_wp2
          go_region
          all_goals go_wp2
          all_goals go_roundw
          case rel => exact ⟨j + 1, by omega, by go_num, below_drewN HB.out _, HT.out, H0.out, H1.out⟩
          case measure => simp [intOf]; omega
        · have hj' : j = 8 := by omega
          subst hj'
          go_wp2
          go_roundw
          case rel => exact ⟨k + 1, by omega, by go_num, hb2, hT2, g02, g12⟩
          case measure => simp [intOf]; omega
    · have hkl : k = l.length := by omega
      subst hkl
      rw [HALL.out] at g1'
      have l0 := load64_row wr _ _ _ g1'
      have s2 := store64_row wr w.heap.size (fs s.data.toList) _ g0'
      have HB : Hid (Below w.heap.size w (wr.setRow w.heap.size (WA (fs s.data.toList)))) := below_setRow hbel (by omega) _
      have HR : Hid ((wr.setRow w.heap.size (WA (fs s.data.toList))).heap[w.heap.size]? = some (.cells (WA (fs s.data.toList)) 64 (0, 0))) := setRow_heap wr _ _ _ _ _ g0'
      clear g0' g1' hbel
      go_wp2
      refine bodyPost_ret (v := .agg (WA (fs s.data.toList))) ?_ rfl ⟨rfl, HB.out⟩
      exact res64 Try.results39 _ _ _ _ rfl HR.out
end Go.Proofs.Ytigoadfbccpmkaa
