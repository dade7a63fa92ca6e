/-
  Cutting a text into pieces: the program's pieces and the document's are the same texts, or the same error. For every text of at most 2^17 bytes; nothing that was there is written.
-/
import Derived.Test.YtnflpmaeekgmjaaF
namespace Go.Proofs.Ytnflpmaeekgmjaa
open Go.RowKit
set_option linter.unusedVariables false

def piece (s : ByteArray) (n i : Nat) : ByteArray := ofL (pad ((s.data.toList.drop (i * n)).take n) n)
def count (s : ByteArray) (n : Nat) : Nat := (s.size + n - 1) / n
def pieces (s : ByteArray) (n : Nat) : List ByteArray := (List.range (count s n)).map (piece s n)
def cutOut (s : ByteArray) (n : Int) : List ByteArray × Int :=
  if n < 1 ∨ n > 65536 then ([], 1) else (pieces s n.toNat, 0)

theorem pieces_length (s : ByteArray) (n : Nat) : (pieces s n).length = count s n := by simp [pieces]
theorem count_le (s : ByteArray) (n : Nat) (h : 1 ≤ n) : count s n ≤ s.size := by
  unfold count
  rcases Nat.eq_zero_or_pos s.size with h0 | h0
  · rw [h0, Nat.zero_add, Nat.div_eq_of_lt (by omega)]; exact Nat.le_refl _
  · have h1 : (s.size + n - 1) / n < s.size + 1 := by
      rw [Nat.div_lt_iff_lt_mul (by omega)]
      have : s.size * n + n ≤ (s.size + 1) * n := by rw [Nat.add_mul, Nat.one_mul]; exact Nat.le_refl _
      have h2 : s.size ≤ s.size * n := Nat.le_mul_of_pos_right _ (by omega)
      omega
    omega
theorem lt_count (s : ByteArray) (n k : Nat) (h : 1 ≤ n) : k < count s n ↔ k * n < s.size := by
  unfold count
  rw [Nat.lt_iff_add_one_le, Nat.le_div_iff_mul_le (by omega), Nat.add_mul, Nat.one_mul]
  omega

def RowS (w : World) (g : Nat) (l : List ByteArray) : Prop := w.heap[g]? = some (.cells (l.map Value.string).toArray 9 (0, 0))
theorem RowS.cell {w : World} {g : Nat} {l : List ByteArray} (h : RowS w g l) (j : Nat) (hj : j < l.length) : w.cell? ⟨g, j, none⟩ = some (.string l[j]) := by
  rw [cell_of_row w g j _ _ _ h]; simp [hj]
theorem RowS.free {w : World} {g : Nat} {l : List ByteArray} (h : RowS w g l) (j : Nat) : w.frozen? ⟨g, j, none⟩ = false := frozen_of_row w g j _ _ h
theorem RowS.set {w : World} {g : Nat} {l : List ByteArray} (h : RowS w g l) (j : Nat) (b : ByteArray) : RowS (w.setCell ⟨g, j, none⟩ (.string b)) g (l.set j b) := by
  unfold RowS
  rw [heap_setCell_same w g j _ _ _ h]
  congr 2
  apply Array.ext'
  simp [List.map_set]
theorem RowS.texts {w : World} {g : Nat} {l : List ByteArray} (h : RowS w g l) : Texts w (some ⟨g, 0, none⟩) l := by
  intro j hj
  exact ⟨g, 0, rfl, by rw [Nat.zero_add]; exact h.cell j hj⟩
theorem RowS.lt {w : World} {g : Nat} {l : List ByteArray} (h : RowS w g l) : g < w.heap.size := by
  rcases Nat.lt_or_ge g w.heap.size with h' | h'
  · exact h'
  · rw [RowS, Array.getElem?_eq_none h'] at h; cases h
theorem RowS.keep {w w' : World} {g : Nat} {l : List ByteArray} (h : RowS w g l) (hb : Below w.heap.size w w') : RowS w' g l := (hb.block g h.lt).trans h

theorem made_texts (n : Nat) : (madeCells (Value.string ByteArray.empty).cells (n * 1)).toList = ((List.replicate n ByteArray.empty).map Value.string).toArray.toList := by
  rw [Nat.mul_one]
  show (madeCells #[Value.string ByteArray.empty] n).toList = _
  rw [toList_madeCells_one]
  simp
theorem rowS_of_owns {w : World} {base g n : Nat} {l : List ByteArray} (hl : l.length = n) (h : w.ownsRow base 9 1 (.slice (some ⟨g, 0, none⟩) n n) n (l.map Value.string).toArray.toList) : RowS w g l := by
  rcases h.2 with ⟨h', _⟩ | ⟨g', cap, cur, h', _, hh, _, _, hs, ht⟩
  · cases h'
  · simp only [Value.slice.injEq, Option.some.injEq, Addr.mk.injEq, and_true, true_and] at h'
    obtain ⟨rfl, rfl⟩ := h'
    rw [Nat.mul_one] at hs ht
    rw [List.take_of_length_le (by simp [hs])] at ht
    unfold RowS
    rw [hh, Array.toList_inj.1 ht]

def filled (s : ByteArray) (n k : Nat) : List ByteArray := (pieces s n).take k ++ List.replicate (count s n - k) ByteArray.empty
theorem filled_length (s : ByteArray) (n k : Nat) (h : k ≤ count s n) : (filled s n k).length = count s n := by simp [filled, pieces_length]; omega
theorem filled_step (s : ByteArray) (n k : Nat) (h : k < count s n) : (filled s n k).set k (piece s n k) = filled s n (k + 1) := by
  unfold filled
  have e1 : ((pieces s n).take k).length = k := by simp [pieces_length]; omega
  rw [List.set_append_right _ _ (by omega), e1, Nat.sub_self, M.take_snoc _ k (by rw [pieces_length]; exact h)]
  have e2 : (pieces s n)[k]'(by rw [pieces_length]; exact h) = piece s n k := by simp [pieces]
  rw [e2, show count s n - k = (count s n - (k + 1)) + 1 by omega, List.replicate_succ, List.set_cons_zero, List.append_assoc]
  rfl
theorem filled_all (s : ByteArray) (n : Nat) : filled s n (count s n) = pieces s n := by
  simp [filled, ← pieces_length]

theorem extract_list (s : ByteArray) (i j : Nat) (hj : j ≤ s.size) : (s.extract i j).data.toList = (s.data.toList.drop i).take (j - i) := by
  simp [ByteArray.data_extract, List.take_drop]

def CutDone (w : World) (l : List ByteArray) (x : Int) (e : Ending) (w' : World) : Prop :=
  ∃ a cap, e = .returned (.tuple #[.slice a l.length cap, .int .i64 x]) ∧ Texts w' a l ∧ Below w.heap.size w w'
theorem cutDone_none (w : World) (x : Int) : CutDone w [] x (.returned (.tuple #[.slice none 0 0, .int .i64 x])) w := ⟨none, 0, rfl, fun j h => by simp at h, Below.refl _ _⟩

set_option maxHeartbeats 400000 in
theorem cut_any (s : ByteArray) (n : Int) (w : World) (hs : s.size ≤ 131072) (hn : -9223372036854775808 ≤ n ∧ n ≤ 9223372036854775807) :
    Calls Try.prog 20 #[.string s, .int .i64 n] w (CutDone w (cutOut s n).1 (cutOut s n).2) := by
  by_cases h1 : n < 1
  · have e : cutOut s n = ([], 1) := by simp [cutOut, h1]
    rw [e]
    have hd : decide (n < 1) = true := by simpa using h1
    go_enter Try.func20, Try.ntmps20
    go_wp2
    go_ret2
    exact cutDone_none _ _
  · by_cases h2 : n > 65536
    · have e : cutOut s n = ([], 1) := by simp [cutOut, h2]
      rw [e]
      have hd : decide (n < 1) = false := by simpa using h1
      go_enter Try.func20, Try.ntmps20
      go_wp2
      go_ret2
      exact cutDone_none _ _
    · have e : cutOut s n = (pieces s n.toNat, 0) := by simp [cutOut, h1, h2]
      rw [e]
      clear e
      obtain ⟨m, rfl⟩ := Int.eq_ofNat_of_zero_le (show 0 ≤ n by omega)
      rw [Int.toNat_natCast]
      have hcl := count_le s m (by omega)
      have hq : ((s.size : Int) + (m : Int) - 1) / (m : Int) = (count s m : Nat) := by
        unfold count
        rw [Int.natCast_ediv]
        congr 1
        omega
      have hq' : ((s.size : Int) + (m : Int) - 1).tdiv (m : Int) = (count s m : Nat) := by
        rw [Int.tdiv_eq_ediv_of_nonneg (by omega), hq]
      have HLT := lt_count s m
      generalize hcn : count s m = c at *
      have HCN : Hid (count s m = c) := hcn
      clear hcn
      have HQ : Hid True := trivial
      obtain ⟨i0, hi, hz0, hz1, hz2⟩ := info_parts Try.info9
      go_enter Try.func20, Try.ntmps20
      go_wp2_with (at_make; refine wpList_make_full _ rfl (.tmp 23) (.tmp 23) 22 rfl w.heap.size 9 i0 (.string ByteArray.empty) 1 Try.underlying22 hi hz0 hz1 .i64 .i64 _ _ c rfl rfl rfl rfl (by rw [hz2]; omega) (by unfold maxLen; omega) (Nat.le_refl _) ?_; intro w1 ho hg; rw [made_texts] at ho; have hrow := rowS_of_owns (by simp) ho; clear ho)
      clear hi hz0 hz1 hz2 hq hq'
      have hb1 := (Below.refl w.heap.size w).grown hg (Nat.le_refl _) (by simp)
      have HM : 1 ≤ m := by omega
      go_loopw [26] (fun i wr => ∃ k : Nat, k ≤ c ∧ i = .int .i64 k ∧ RowS wr w.heap.size (filled s m k) ∧ Below w.heap.size w wr) (fun i _ => c - (intOf i).toNat)
      case atStart => exact ⟨0, Nat.zero_le _, rfl, by simpa [filled, HCN.out] using hrow, hb1⟩
      case round =>
        obtain ⟨k, hk, rfl, hrow', hbel⟩ := hrel
        clear hrow hb1 hg
        by_cases hlt : k < c
        · have hkm : k * m < s.size := (HLT k HM).1 hlt
          clear HLT
          have HP : Hid (piece s m k = ofL (pad ((s.data.toList.drop (k * m)).take m) m)) := rfl
          have hfl := filled_length s m k (by rw [HCN.out]; omega)
          have HST := filled_step s m k (by rw [HCN.out]; exact hlt)
          have hmul : (k : Int) * (m : Int) = ((k * m : Nat) : Int) := by simp
          generalize k * m = f at *
          generalize filled s m k = r at *
          generalize piece s m k = pc at *
          have HF : Hid (r.length = c) := hfl.trans HCN.out
          have HS : Hid (r.set k pc = filled s m (k + 1)) := HST
          clear hfl HST
          by_cases hfm : f + m ≤ s.size
          · go_wp2_with fail
            refine (padded_any (s.extract f (f + m)) m _ (by omega) (by rw [ByteArray.size_extract]; omega)).mono ?_
            rintro e w2 ⟨rfl, hb2⟩
            have hp2 : ofL (pad (s.extract f (f + m)).data.toList m) = pc := by
              rw [HP.out, extract_list s f (f + m) (by omega)]
              rw [Nat.add_sub_cancel_left]
            rw [hp2]
            clear hp2
            have hrow2 := hrow'.keep hb2
            have hc2 := hrow2.cell k (by rw [HF.out]; exact hlt)
            have hf2 := hrow2.free k
            generalize r[k]'(by rw [HF.out]; exact hlt) = old at hc2
            have R := hrow2.set k pc
            rw [HS.out] at R
            have B := (hbel.trans (hb2.mono hbel.size)).setCell (p := ⟨w.heap.size, k, none⟩) (Nat.le_refl _) (.string pc)
            clear hrow2
            go_wp2
            go_roundw
            case rel => exact ⟨k + 1, by omega, by go_num, R, B⟩
            case measure => simp [intOf]; omega
          · go_wp2_with fail
            refine (padded_any (s.extract f s.size) m _ (by omega) (by rw [ByteArray.size_extract]; omega)).mono ?_
            rintro e w2 ⟨rfl, hb2⟩
            have hp2 : ofL (pad (s.extract f s.size).data.toList m) = pc := by
              rw [HP.out, extract_list s f s.size (by omega)]
              rw [List.take_of_length_le (by rw [List.length_drop, len_data]; omega), List.take_of_length_le (by rw [List.length_drop, len_data]; omega)]
            rw [hp2]
            clear hp2
            have hrow2 := hrow'.keep hb2
            have hc2 := hrow2.cell k (by rw [HF.out]; exact hlt)
            have hf2 := hrow2.free k
            generalize r[k]'(by rw [HF.out]; exact hlt) = old at hc2
            have R := hrow2.set k pc
            rw [HS.out] at R
            have B := (hbel.trans (hb2.mono hbel.size)).setCell (p := ⟨w.heap.size, k, none⟩) (Nat.le_refl _) (.string pc)
            clear hrow2
            go_wp2
            go_roundw
            case rel => exact ⟨k + 1, by omega, by go_num, R, B⟩
            case measure => simp [intOf]; omega
        · have hkc : k = c := by omega
          rw [hkc, ← HCN.out, filled_all] at hrow'
          have HPL : Hid (c = (pieces s m).length) := by
            show _ = _
            rw [pieces_length, HCN.out]
          clear hkc HLT
          go_wp2
          go_ret2
          refine ⟨some ⟨w.heap.size, 0, none⟩, c, ?_, hrow'.texts, hbel⟩
          rw [← HPL.out]
          rfl

end Go.Proofs.Ytnflpmaeekgmjaa
