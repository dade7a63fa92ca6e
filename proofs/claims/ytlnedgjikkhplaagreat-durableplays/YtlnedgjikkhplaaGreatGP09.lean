import Derived.Test.YtlnedgjikkhplaaGreatGP08
import Derived.Lib.ConvBytes
import Derived.Lib.AppendStr
set_option maxRecDepth 100000
set_option maxHeartbeats 8000000
set_option linter.unusedVariables false
set_option linter.unusedSimpArgs false
namespace Go.Proofs.YtlnedgjikkhplaaGreat.Ns
open Go.RowKit
open M (ofL ofL_size ofL_of)
namespace M
theorem take_snoc {α : Type} (l : List α) (k : Nat) (h : k < l.length) : l.take (k + 1) = l.take k ++ [l[k]] := by
 rw [List.take_succ_eq_append_getElem h]
def over (l : List UInt8) (off : Nat) (s : List UInt8) : List UInt8 := l.take off ++ s ++ l.drop (off + s.length)
theorem over_length (l : List UInt8) (off : Nat) (s : List UInt8) (h : off + s.length ≤ l.length) : (over l off s).length = l.length := by
 simp [over]; omega
theorem over_nil (l : List UInt8) (off : Nat) : over l off [] = l := by simp [over]
theorem over_step (l : List UInt8) (off : Nat) (s : List UInt8) (k : Nat) (hk : k < s.length) (h : off + s.length ≤ l.length) :
  (over l off (s.take k)).set (off + k) s[k] = over l off (s.take (k + 1)) := by
 have e1 : (s.take k).length = k := by simp; omega
 have e2 : (s.take (k + 1)).length = k + 1 := by simp; omega
 unfold over; rw [e1, e2, take_snoc s k hk]
 have e3 : (l.take off ++ s.take k).length = off + k := by simp; omega
 rw [List.set_append_right _ _ (by omega), e3, Nat.sub_self]
 have e4 : l.drop (off + k) = l[off + k] :: l.drop (off + k + 1) := by rw [List.drop_eq_getElem_cons (by omega)]
 rw [e4]
 simp only [List.append_assoc, List.cons_append, List.nil_append, List.set_cons_zero, Nat.add_assoc]
end M
theorem grown_trans {a b c : World} {r : Option Nat} (h : a.grownBy b r) (k : b.grownBy c r) : a.grownBy c r :=
 ⟨k.os.trans h.os, k.tape.trans h.tape, k.output.trans h.output, Nat.le_trans h.size k.size, fun j hj hn => (k.block j (Nat.lt_of_lt_of_le hj h.size) hn).trans (h.block j hj hn)⟩
theorem len_data (s : ByteArray) : s.data.toList.length = s.size := Array.length_toList
def cellsOf (l : List UInt8) : Array Value := (l.map fun b => Value.int .u8 (b.toNat : Int)).toArray
theorem cellsOf_get (l : List UInt8) (j : Nat) (h : j < l.length) : (cellsOf l)[j]? = some (Value.int .u8 (l[j].toNat : Int)) := by simp [cellsOf, h]
theorem cellsOf_set (l : List UInt8) (j : Nat) (b : UInt8) : (cellsOf l).setIfInBounds j (Value.int .u8 (b.toNat : Int)) = cellsOf (l.set j b) := by
 apply Array.ext'
 simp [cellsOf, List.map_set]
def Row (w : World) (g : Nat) (l : List UInt8) : Prop := w.heap[g]? = some (.cells (cellsOf l) 5 (0, 0))
theorem Row.cell {w : World} {g : Nat} {l : List UInt8} (h : Row w g l) (j : Nat) (hj : j < l.length) : w.cell? ⟨g, j, none⟩ = some (.int .u8 (l[j].toNat : Int)) := by
 rw [cell_of_row w g j _ _ _ h, cellsOf_get l j hj]
theorem Row.free {w : World} {g : Nat} {l : List UInt8} (h : Row w g l) (j : Nat) : w.frozen? ⟨g, j, none⟩ = false := frozen_of_row w g j _ _ h
theorem Row.set {w : World} {g : Nat} {l : List UInt8} (h : Row w g l) (j : Nat) (b : UInt8) : Row (w.setCell ⟨g, j, none⟩ (.int .u8 (b.toNat : Int))) g (l.set j b) := by
 unfold Row; rw [← cellsOf_set]
 exact heap_setCell_same w g j _ _ _ h
theorem grown_set (w : World) (g j : Nat) (u : Value) : w.grownBy (w.setCell ⟨g, j, none⟩ u) (some g) :=
 ⟨rfl, rfl, rfl, by simp, fun k _ hk => heap_setCell_other w ⟨g, j, none⟩ k u (fun e => hk (by simp [e]))⟩
theorem Row.drewN {w : World} {g : Nat} {l : List UInt8} (h : Row w g l) (n : Nat) : Row (w.drewN n) g l := h
theorem lay_any (g off len cap : Nat) (l : List UInt8) (s : ByteArray) (w : World) (hr : Row w g l) (h1 : s.size ≤ len) (h2 : off + s.size ≤ l.length) (h3 : len ≤ 281474976710656) :
  Calls Tryz.prog 104 #[.slice (some ⟨g, off, none⟩) len cap, .string s] w fun e w' => e = .returned (.tuple #[]) ∧ Row w' g (M.over l off s.data.toList) ∧ w.grownBy w' (some g) := by
 go_enter Tryz.func104, Tryz.ntmps104
 go_wp2
 go_loopw [7] (fun i wr => ∃ k : Nat, k ≤ s.size ∧ i = .int .i64 k ∧ Row wr g (M.over l off (s.data.toList.take k)) ∧ w.grownBy wr (some g)) (fun i _ => s.size - (intOf i).toNat)
 case atStart => exact ⟨0, Nat.zero_le _, rfl, by rw [List.take_zero, M.over_nil]; exact hr, World.grownBy.refl _ _⟩
 case round =>
  obtain ⟨k, hk, rfl, hrow, hgr⟩ := hrel
  by_cases hlt : k < s.size
  ·have hlen : (M.over l off (s.data.toList.take k)).length = l.length := M.over_length _ _ _ (by rw [List.length_take, len_data]; omega)
   have hc := hrow.cell (off + k) (by omega)
   have hf := hrow.free (off + k)
   have hc' : ∃ v, wr.cell? ⟨g, off + k, none⟩ = some v := ⟨_, hc⟩
   clear hc
   obtain ⟨v, hv⟩ := hc'
   have R : Row (wr.setCell ⟨g, off + k, none⟩ (.int .u8 (s[k].toNat : Int))) g (M.over l off (s.data.toList.take (k + 1))) := by
    rw [← M.over_step l off s.data.toList k (by rw [len_data]; exact hlt) (by rw [len_data]; exact h2)]
    exact hrow.set (off + k) _
   have G := grown_trans hgr (grown_set wr g (off + k) (.int .u8 (s[k].toNat : Int)))
   go_wp2
   go_roundw
   case rel => exact ⟨k + 1, by omega, by go_num, R, G⟩
   case measure => simp [intOf]; omega
  ·rw [List.take_of_length_le (by rw [len_data]; omega)] at hrow
   go_wp2
   go_end0
   exact ⟨rfl, hrow, hgr⟩
theorem ofL_data (l : List UInt8) : (ofL l).data.toList = l := by simp [ofL]
theorem Tryz.info5 : (Tryz.prog.info? 5).map (fun i => (i.zero, i.size, i.bytes)) = some (some (.int .u8 0), 1, 1) := by kernel_rfl
theorem Tryz.info9 : (Tryz.prog.info? 9).map (fun i => (i.zero, i.size, i.bytes)) = some (some (.string ByteArray.empty), 1, 16) := by kernel_rfl
theorem made_cells (n : Nat) : (madeCells (Value.int .u8 0).cells (n * 1)).toList = (cellsOf (List.replicate n 0)).toList := by
 rw [Nat.mul_one]
 show (madeCells #[Value.int .u8 0] n).toList = _
 rw [toList_madeCells_one]
 simp [cellsOf]
theorem row_of_owns {w : World} {base g n : Nat} {l : List UInt8} (hl : l.length = n) (h : w.ownsRow base 5 1 (.slice (some ⟨g, 0, none⟩) n n) n (cellsOf l).toList) : Row w g l := by
 rcases h.2 with ⟨h', _⟩ | ⟨g', cap, cur, h', _, hh, _, _, hs, ht⟩
 ·cases h'
 ·simp only [Value.slice.injEq, Option.some.injEq, Addr.mk.injEq, and_true, true_and] at h'
  obtain ⟨rfl, rfl⟩ := h'
  rw [Nat.mul_one] at hs ht; rw [List.take_of_length_le (by simp [hs])] at ht; unfold Row; rw [hh, Array.toList_inj.1 ht]
theorem Row.convert {w : World} {g : Nat} {l : List UInt8} (h : Row w g l) (n cap : Nat) (hn : n = l.length) : (Go.convert 138 9 (.slice (some ⟨g, 0, none⟩) n cap)).run Tryz.prog w = .ok (.string (ofL l)) w := by
 subst hn
 refine run_convert_bytes_back w 138 9 5 ⟨g, 0, none⟩ cap l Tryz.underlying138 Tryz.underlying5 Tryz.underlying9 fun j hj => ?_
 rw [show ((⟨g, 0, none⟩ : Addr).add j) = ⟨g, j, none⟩ by unfold Addr.add; split <;> simp_all]
 exact h.cell j hj
def pad (l : List UInt8) (n : Nat) : List UInt8 := l ++ List.replicate (n - l.length) 0
theorem over_pad (l : List UInt8) (n : Nat) (h : l.length ≤ n) : M.over (List.replicate n 0) 0 l = pad l n := by
 simp [M.over, pad]
theorem padded_any (s : ByteArray) (n : Nat) (w : World) (h : n ≤ 281474976710656) (hs : s.size ≤ n) :
  Calls Tryz.prog 81 #[.string s, .int .i64 n] w fun e w' => e = .returned (.string (ofL (pad s.data.toList n))) ∧ Below w.heap.size w w' := by
 obtain ⟨i0, hi, hz0, hz1, hz2⟩ := info_parts Tryz.info5
 go_enter Tryz.func81, Tryz.ntmps81
 go_wp2_with (at_make; refine wpList_make_full _ rfl (.tmp 6) (.tmp 6) 138 rfl w.heap.size 5 i0 (.int .u8 0) 1 Tryz.underlying138 hi hz0 hz1 .i64 .i64 _ _ n rfl rfl rfl rfl (by rw [hz2]; omega) (by unfold maxLen; omega) Lr ?_; intro w1 ho hg; rw [made_cells] at ho; have hrow := row_of_owns (by simp) ho; clear ho)
 refine (lay_any w.heap.size 0 n n _ s _ hrow hs (by simpa using hs) h).mono ?_; rintro e w2 ⟨rfl, hrow2, hg2⟩
 rw [over_pad _ _ (by rw [len_data]; exact hs)] at hrow2
 have hcv := hrow2.convert n n (by simp [pad]; omega)
 go_wp2
 go_ret
 exact ⟨rfl, ((Below.refl _ _).grown hg Lr (by simp)).grown hg2 (by have := hg.size; omega) (by simp)⟩
def Texts (w : World) (a : Option Addr) (l : List ByteArray) : Prop :=
 ∀ j (h : j < l.length), ∃ b off, a = some ⟨b, off, none⟩ ∧ w.cell? ⟨b, off + j, none⟩ = some (.string l[j])
theorem Texts.keep {w w' : World} {a : Option Addr} {l : List ByteArray} (h : Texts w a l) (hb : Below w.heap.size w w') : Texts w' a l := by
 intro j hj
 obtain ⟨b, off, rfl, hc⟩ := h j hj
 exact ⟨b, off, rfl, (hb.cell (p := ⟨b, off + j, none⟩) (World.block_lt_of_cell? w _ hc)).trans hc⟩
def piece (s : ByteArray) (n i : Nat) : ByteArray := ofL (pad ((s.data.toList.drop (i * n)).take n) n)
def count (s : ByteArray) (n : Nat) : Nat := (s.size + n - 1) / n
def pieces (s : ByteArray) (n : Nat) : List ByteArray := (List.range (count s n)).map (piece s n)
def cutOut (s : ByteArray) (n : Int) : List ByteArray × Int :=
 if n < 1 ∨ n > 65536 then ([], 1) else (pieces s n.toNat, 0)
theorem pieces_length (s : ByteArray) (n : Nat) : (pieces s n).length = count s n := by simp [pieces]
theorem count_le (s : ByteArray) (n : Nat) (h : 1 ≤ n) : count s n ≤ s.size := by
 unfold count
 rcases Nat.eq_zero_or_pos s.size with h0 | h0
 ·rw [h0, Nat.zero_add, Nat.div_eq_of_lt (by omega)]; exact Nat.le_refl _
 ·have h1 : (s.size + n - 1) / n < s.size + 1 := by
   rw [Nat.div_lt_iff_lt_mul (by omega)]
   have : s.size * n + n ≤ (s.size + 1) * n := by rw [Nat.add_mul, Nat.one_mul]; exact Nat.le_refl _
   have h2 : s.size ≤ s.size * n := Nat.le_mul_of_pos_right _ (by omega)
   omega
  omega
theorem lt_count (s : ByteArray) (n k : Nat) (h : 1 ≤ n) : k < count s n ↔ k * n < s.size := by
 unfold count; rw [Nat.lt_iff_add_one_le, Nat.le_div_iff_mul_le (by omega), Nat.add_mul, Nat.one_mul]
 omega
def RowS (w : World) (g : Nat) (l : List ByteArray) : Prop := w.heap[g]? = some (.cells (l.map Value.string).toArray 9 (0, 0))
theorem RowS.cell {w : World} {g : Nat} {l : List ByteArray} (h : RowS w g l) (j : Nat) (hj : j < l.length) : w.cell? ⟨g, j, none⟩ = some (.string l[j]) := by
 rw [cell_of_row w g j _ _ _ h]; simp [hj]
theorem RowS.free {w : World} {g : Nat} {l : List ByteArray} (h : RowS w g l) (j : Nat) : w.frozen? ⟨g, j, none⟩ = false := frozen_of_row w g j _ _ h
theorem RowS.set {w : World} {g : Nat} {l : List ByteArray} (h : RowS w g l) (j : Nat) (b : ByteArray) : RowS (w.setCell ⟨g, j, none⟩ (.string b)) g (l.set j b) := by
 unfold RowS; rw [heap_setCell_same w g j _ _ _ h]
 congr 2
 apply Array.ext'
 simp [List.map_set]
theorem RowS.texts {w : World} {g : Nat} {l : List ByteArray} (h : RowS w g l) : Texts w (some ⟨g, 0, none⟩) l := by
 intro j hj
 exact ⟨g, 0, rfl, by rw [Nat.zero_add]; exact h.cell j hj⟩
theorem RowS.lt {w : World} {g : Nat} {l : List ByteArray} (h : RowS w g l) : g < w.heap.size := by
 rcases Nat.lt_or_ge g w.heap.size with h' | h'
 ·exact h'
 ·rw [RowS, Array.getElem?_eq_none h'] at h; cases h
theorem RowS.keep {w w' : World} {g : Nat} {l : List ByteArray} (h : RowS w g l) (hb : Below w.heap.size w w') : RowS w' g l := (hb.block g h.lt).trans h
theorem made_texts (n : Nat) : (madeCells (Value.string ByteArray.empty).cells (n * 1)).toList = ((List.replicate n ByteArray.empty).map Value.string).toArray.toList := by
 rw [Nat.mul_one]
 show (madeCells #[Value.string ByteArray.empty] n).toList = _
 rw [toList_madeCells_one]
 simp
theorem rowS_of_owns {w : World} {base g n : Nat} {l : List ByteArray} (hl : l.length = n) (h : w.ownsRow base 9 1 (.slice (some ⟨g, 0, none⟩) n n) n (l.map Value.string).toArray.toList) : RowS w g l := by
 rcases h.2 with ⟨h', _⟩ | ⟨g', cap, cur, h', _, hh, _, _, hs, ht⟩
 ·cases h'
 ·simp only [Value.slice.injEq, Option.some.injEq, Addr.mk.injEq, and_true, true_and] at h'
  obtain ⟨rfl, rfl⟩ := h'
  rw [Nat.mul_one] at hs ht; rw [List.take_of_length_le (by simp [hs])] at ht; unfold RowS; rw [hh, Array.toList_inj.1 ht]
def filled (s : ByteArray) (n k : Nat) : List ByteArray := (pieces s n).take k ++ List.replicate (count s n - k) ByteArray.empty
theorem filled_length (s : ByteArray) (n k : Nat) (h : k ≤ count s n) : (filled s n k).length = count s n := by simp [filled, pieces_length]; omega
theorem filled_step (s : ByteArray) (n k : Nat) (h : k < count s n) : (filled s n k).set k (piece s n k) = filled s n (k + 1) := by
 unfold filled
 have e1 : ((pieces s n).take k).length = k := by simp [pieces_length]; omega
 rw [List.set_append_right _ _ (by omega), e1, Nat.sub_self, M.take_snoc _ k (by rw [pieces_length]; exact h)]
 have e2 : (pieces s n)[k]'(by rw [pieces_length]; exact h) = piece s n k := by simp [pieces]
 rw [e2, show count s n - k = (count s n - (k + 1)) + 1 by omega, List.replicate_succ, List.set_cons_zero, List.append_assoc]
 rfl
theorem filled_all (s : ByteArray) (n : Nat) : filled s n (count s n) = pieces s n := by
 simp [filled, ← pieces_length]
theorem extract_list (s : ByteArray) (i j : Nat) (hj : j ≤ s.size) : (s.extract i j).data.toList = (s.data.toList.drop i).take (j - i) := by
 simp [ByteArray.data_extract, List.take_drop]
def CutDone (w : World) (l : List ByteArray) (x : Int) (e : Ending) (w' : World) : Prop :=
 ∃ a cap, e = .returned (.tuple #[.slice a l.length cap, .int .i64 x]) ∧ Texts w' a l ∧ Below w.heap.size w w' ∧ ∀ k, blk a k → w.heap.size ≤ k
theorem cutDone_none (w : World) (x : Int) : CutDone w [] x (.returned (.tuple #[.slice none 0 0, .int .i64 x])) w := ⟨none, 0, rfl, (fun j h => by simp at h), Below.refl _ _, fun k hk => by obtain ⟨_, _, h⟩ := hk; cases h⟩
theorem cut_any (s : ByteArray) (n : Int) (w : World) (hs : s.size ≤ 131072) (hn : -9223372036854775808 ≤ n ∧ n ≤ 9223372036854775807) :
  Calls Tryz.prog 119 #[.string s, .int .i64 n] w (CutDone w (cutOut s n).1 (cutOut s n).2) := by
 by_cases h1 : n < 1
 ·have e : cutOut s n = ([], 1) := by simp [cutOut, h1]
  rw [e]
  have hd : decide (n < 1) = true := by simpa using h1
  go_enter Tryz.func119, Tryz.ntmps119
  go_wp2
  go_ret2
  exact cutDone_none _ _
 ·by_cases h2 : n > 65536
  ·have e : cutOut s n = ([], 1) := by simp [cutOut, h2]
   rw [e]
   have hd : decide (n < 1) = false := by simpa using h1
   go_enter Tryz.func119, Tryz.ntmps119
   go_wp2
   go_ret2
   exact cutDone_none _ _
  ·have e : cutOut s n = (pieces s n.toNat, 0) := by simp [cutOut, h1, h2]
   rw [e]; clear e
   obtain ⟨m, rfl⟩ := Int.eq_ofNat_of_zero_le (show 0 ≤ n by omega)
   rw [Int.toNat_natCast]
   have hcl := count_le s m (by omega)
   have hq : ((s.size : Int) + (m : Int) - 1) / (m : Int) = (count s m : Nat) := by
    unfold count; rw [Int.natCast_ediv]
    congr 1
    omega
   have hq' : ((s.size : Int) + (m : Int) - 1).tdiv (m : Int) = (count s m : Nat) := by
    rw [Int.tdiv_eq_ediv_of_nonneg (by omega), hq]
   have HLT := lt_count s m
   generalize hcn : count s m = c at *
   have HCN : Hid (count s m = c) := hcn
   clear hcn
   have HQ : Hid True := trivial
   obtain ⟨i0, hi, hz0, hz1, hz2⟩ := info_parts Tryz.info9
   go_enter Tryz.func119, Tryz.ntmps119
   go_wp2_with (at_make; refine wpList_make_full _ rfl (.tmp 23) (.tmp 23) 31 rfl w.heap.size 9 i0 (.string ByteArray.empty) 1 Tryz.underlying31 hi hz0 hz1 .i64 .i64 _ _ c rfl rfl rfl rfl (by rw [hz2]; omega) (by unfold maxLen; omega) Lr ?_; intro w1 ho hg; rw [made_texts] at ho; have hrow := rowS_of_owns (by simp) ho; clear ho)
   clear hi hz0 hz1 hz2 hq hq'
   have hb1 := (Below.refl w.heap.size w).grown hg Lr (by simp)
   have HM : 1 ≤ m := by omega
   go_loopw [26] (fun i wr => ∃ k : Nat, k ≤ c ∧ i = .int .i64 k ∧ RowS wr w.heap.size (filled s m k) ∧ Below w.heap.size w wr) (fun i _ => c - (intOf i).toNat)
   case atStart => exact ⟨0, Nat.zero_le _, rfl, by simpa [filled, HCN.out] using hrow, hb1⟩
   case round =>
    obtain ⟨k, hk, rfl, hrow', hbel⟩ := hrel
    clear hrow hb1 hg
    by_cases hlt : k < c
    ·have hkm : k * m < s.size := (HLT k HM).1 hlt
     clear HLT
     have HP : Hid (piece s m k = ofL (pad ((s.data.toList.drop (k * m)).take m) m)) := rfl
     have hfl := filled_length s m k (by rw [HCN.out]; omega)
     have HST := filled_step s m k (by rw [HCN.out]; exact hlt)
     have hmul : (k : Int) * (m : Int) = ((k * m : Nat) : Int) := by simp
     generalize k * m = f at *
     generalize filled s m k = r at *
     generalize piece s m k = pc at *
     have HF : Hid (r.length = c) := hfl.trans HCN.out
     have HS : Hid (r.set k pc = filled s m (k + 1)) := HST
     clear hfl HST
     by_cases hfm : f + m ≤ s.size
     ·have hmin : min ((f : Int) + (m : Int)) (s.size : Int) = ((f + m : Nat) : Int) := by omega
      go_wp2_with fail
      refine (padded_any (s.extract f (f + m)) m _ (by omega) (by rw [ByteArray.size_extract]; omega)).mono ?_; rintro e w2 ⟨rfl, hb2⟩
      have hp2 : ofL (pad (s.extract f (f + m)).data.toList m) = pc := by
       rw [HP.out, extract_list s f (f + m) (by omega)]; rw [Nat.add_sub_cancel_left]
      rw [hp2]; clear hp2
      have hrow2 := hrow'.keep hb2
      have hc2 := hrow2.cell k (by rw [HF.out]; exact hlt)
      have hf2 := hrow2.free k
      generalize r[k]'(by rw [HF.out]; exact hlt) = old at hc2
      have R := hrow2.set k pc
      rw [HS.out] at R
      have B := (hbel.trans (hb2.mono hbel.size)).setCell (p := ⟨w.heap.size, k, none⟩) Lr (.string pc)
      clear hrow2; go_wp2
      go_roundw
      case rel => exact ⟨k + 1, by omega, by go_num, R, B⟩
      case measure => simp [intOf]; omega
     ·have hmin : min ((f : Int) + (m : Int)) (s.size : Int) = (s.size : Int) := by omega
      go_wp2_with fail
      refine (padded_any (s.extract f s.size) m _ (by omega) (by rw [ByteArray.size_extract]; omega)).mono ?_; rintro e w2 ⟨rfl, hb2⟩
      have hp2 : ofL (pad (s.extract f s.size).data.toList m) = pc := by
       rw [HP.out, extract_list s f s.size (by omega)]; rw [List.take_of_length_le (by rw [List.length_drop, len_data]; omega), List.take_of_length_le (by rw [List.length_drop, len_data]; omega)]
      rw [hp2]; clear hp2
      have hrow2 := hrow'.keep hb2
      have hc2 := hrow2.cell k (by rw [HF.out]; exact hlt)
      have hf2 := hrow2.free k
      generalize r[k]'(by rw [HF.out]; exact hlt) = old at hc2
      have R := hrow2.set k pc
      rw [HS.out] at R
      have B := (hbel.trans (hb2.mono hbel.size)).setCell (p := ⟨w.heap.size, k, none⟩) Lr (.string pc)
      clear hrow2; go_wp2
      go_roundw
      case rel => exact ⟨k + 1, by omega, by go_num, R, B⟩
      case measure => simp [intOf]; omega
    ·have hkc : k = c := by omega
     rw [hkc, ← HCN.out, filled_all] at hrow'
     have HPL : Hid (c = (pieces s m).length) := by
      show _ = _
      rw [pieces_length, HCN.out]
     clear hkc HLT; go_wp2
     go_ret2
     refine ⟨some ⟨w.heap.size, 0, none⟩, c, ?_, hrow'.texts, hbel, fun k hk => by obtain ⟨_, _, h⟩ := hk; cases h; exact Nat.le_refl _⟩
     rw [← HPL.out]
     rfl
end Go.Proofs.YtlnedgjikkhplaaGreat.Ns
namespace Go.Proofs.YtlnedgjikkhplaaGreat.Ns
open Go.RowKit
def ChOut (w : World) (base b g : Nat) (vl : Value) (n : Nat) (P' : List M.Pl) (r : Value) (e : Ending) (w' : World) : Prop := ∃ vl' ls', e = .returned r ∧ DI w' base b g vl' n P' ls' ∧ Ch w (fp b g vl) w' (fp b g vl')
theorem fp_b (b g : Nat) (vl : Value) : fp b g vl b := .inl rfl
theorem fp_g (b g : Nat) (vl : Value) : fp b g vl g := .inr (.inl rfl)
theorem wpList_append_known {P : Program} {w : World} {ops : Array Oper} {rest : List Oper} {o : Oper} {a : Act} {Q : Exit → Act → World → Prop} (hgd : o.guard = none) (s x : Operand) (t : TypeId)
  (ho : o.op = .call { callee := .builtin .append, args := #[s, x], argTypes := #[t, t] }) (v sv : Value) (hs : a.eval s = v) (hx : a.eval x = sv) (v' : Value) (w' : World)
  (hr : (Builtin.append_ #[t, t] o.type #[v, sv]).run P w = .ok v' w') (h : wpList P ops Q rest (a.put o.dst v') w') : wpList P ops Q (o :: rest) a w := by
 refine wpList_plain hgd fun K' hK' => ?_
 unfold Oper.wp execOp
 simp only [ho, resolve, invoke, builtin, Sem.run_bind, Sem.run_pure, Result.andThen_ok, List.map_toArray, List.map_cons, List.map_nil, hs, hx, hr]
 exact hK' _ _ h
theorem ne_nil {s : ByteArray} (h : s.size = 64) : s.toList.isEmpty = false := by
 rw [ByteArray.toList_eq]
 cases hd : s.data.toList with
 | nil => rw [← ByteArray.size_data, ← Array.length_toList, hd] at h; cases h
 | cons a r => rfl
theorem is_nil : M.E.toList.isEmpty = true := by rw [ByteArray.toList_eq]; rfl
section
variable {w w1 : World} {base b g : Nat} {vl vl' : Value} {n : Nat} {P P' : List M.Pl} {ls ls' : List Nat}
theorem DI.loo (h : DI w base b g vl n P ls) (hr : Rw w vl w1 vl') (ho : w1.ownsRow base 3 1 vl' (M.zs ls').length (IC (M.zs ls'))) :
  PR (w1.setCell ⟨b, 2, none⟩ vl') g P ∧ (w1.setCell ⟨b, 2, none⟩ vl').heap[b]? = some (.cells #[.int .i64 n, .slice (some ⟨g, 0, none⟩) n n, vl', .bool false] 84 (0, 0)) ∧ (w1.setCell ⟨b, 2, none⟩ vl').ownsRow base 3 1 vl' (M.zs ls').length (IC (M.zs ls')) ∧ (vl'.ownBlock ≠ some b ∧ vl'.ownBlock ≠ some g) ∧ Ch w (fp b g vl) (w1.setCell ⟨b, 2, none⟩ vl') (fp b g vl') := by
 have hrow : w1.heap[b]? = some (.cells #[.int .i64 n, .slice (some ⟨g, 0, none⟩) n n, vl, .bool false] 84 (0, 0)) := (hr.g.block b h.lt (fun e => h.ne.2.1 e.symm)).trans h.row
 have hpl : PR w1 g P := (hr.g.block g h.pl.lt (fun e => h.ne.2.2 e.symm)).trans h.pl
 have hne : vl'.ownBlock ≠ some b := fun e => by
  rcases hr.n b e with h' | h'
  ·exact h.ne.2.1 h'
  ·have := h.lt; omega
 have hng : vl'.ownBlock ≠ some g := fun e => by
  rcases hr.n g e with h' | h'
  ·exact h.ne.2.2 h'
  ·have := h.pl.lt; omega
 refine ⟨(heap_setCell_other w1 ⟨b, 2, none⟩ g _ (fun e => h.ne.1 e.symm)).trans hpl, heap_setCell_same w1 b 2 _ _ _ hrow, owns_keepBut ho (fun k hk e => heap_setCell_other w1 ⟨b, 2, none⟩ k _ (fun e' => hne (by rw [e, e']))), ⟨hne, hng⟩, ?_⟩
 refine ⟨hr.g.os, hr.g.tape, hr.g.output, Nat.le_trans hr.g.size (by simp), fun k hk hF => ?_, fun k hk => ?_⟩
 ·rw [heap_setCell_other w1 ⟨b, 2, none⟩ k _ (fun e => hF (.inl e))]
  exact hr.g.block k hk (fun e => hF (.inr (.inr e.symm)))
 ·rcases hk with h' | h' | h'
  ·exact .inl (.inl h')
  ·exact .inl (.inr (.inl h'))
  ·rcases hr.n k h' with h'' | h''
   ·exact .inl (.inr (.inr h''))
   ·exact .inr h''
end
theorem loosen_any (base b g : Nat) (vl : Value) (n : Nat) (P : List M.Pl) (ls : List Nat) (i : Nat) (s : ByteArray) (w : World) (hb : base ≤ w.heap.size) (h : DI w base b g vl n P ls) (hi : i < n) (hs : s.size = 64) :
  Calls Tryz.prog 120 #[.pointer (some ⟨b, 0, none⟩), .int .i64 i, .string s] w (ChOut w base b g vl n (M.st P i s) (.tuple #[])) := by
 have hiP : i < P.length := by rw [h.len]; exact hi
 have hn := h.n1.2
 obtain ⟨c0, c1⟩ := h.pl.c i hiP
 obtain ⟨⟨r0, r1, r2, r3⟩, rf⟩ := row4 h.row
 have hok := M.st_ok h.ok i s hiP hs
 have hlo := M.st_lo h.lo i s hiP hs
 cases hl : M.lse P[i] with
 | true =>
  have h64 : P[i].2.size = 64 := by
   rcases (h.ok.get i hiP).2 with h' | h'
   ·exact h'
   ·unfold M.lse at hl; rw [h'] at hl; cases hl
  have pf := h.pl.free (i * 2 + 1)
  have HK : Hid (ChOut w base b g vl n (M.st P i s) (.tuple #[]) (.returned (.tuple #[])) (w.setCell ⟨g, i * 2 + 1, none⟩ (.string s))) := by
   unfold M.ad at hlo; rw [List.getElem?_eq_getElem hiP, Option.getD_some, hl] at hlo
   refine ⟨vl, ls, rfl, ⟨(heap_setCell_other w ⟨g, _, none⟩ b _ h.ne.1).trans h.row, ?_, by rw [M.st_len]; exact h.len, h.n1, hok, owns_keepBut h.own (fun k hk e => heap_setCell_other w ⟨g, _, none⟩ k _ (fun e' => h.ne.2.2 (by rw [e, e']))), hlo, h.ne, h.low⟩, Ch.cell g _ _ (fp_g _ _ _)⟩
   rw [M.st_eq P i s hiP]
   exact h.pl.set1 i hiP s
  clear h hok hlo hl
  generalize P[i].2 = old at *
  generalize P[i].1 = fl at *
  have he := ne_nil h64
  clear rf
  go_enter Tryz.func120, Tryz.ntmps120
  go_wp2
  go_end0
  exact HK.out
 | false =>
  obtain ⟨_, hE⟩ := M.lse_no hl
  rw [hE] at c1
  obtain ⟨a, cap, rfl, _, _⟩ := owns_at h.own
  have hX1 := h.keep (bel1 w (.cells #[.int .i64 (i : Int)] 3))
  have hlsn := h.lsn
  obtain ⟨gg, cp, w3, hrun, ho, hrw⟩ := run_app_int (w.alloc (.cells #[.int .i64 (i : Int)] 3)) base _ (M.zs ls) i w.heap.size 1 82 hX1.own (heap_alloc_last w _) (by rw [M.zs_len]; omega) (by simp; omega)
  have ez : M.zs ls ++ [(i : Int)] = M.zs (ls ++ [i]) := by simp [M.zs]
  rw [ez] at ho
  obtain ⟨q1, q2, q3, q4, q5⟩ := hX1.loo (ls' := ls ++ [i]) hrw ho
  obtain ⟨⟨_, _, m2, _⟩, mf⟩ := row4 ((hrw.g.block b hX1.lt (fun e => hX1.ne.2.1 e.symm)).trans hX1.row)
  have mf2 := mf 2
  obtain ⟨W4, HW4⟩ := Nh (w3.setCell ⟨b, 2, none⟩ (.slice (some ⟨gg, 0, none⟩) ((M.zs ls).length + 1) cp))
  rw [HW4.out] at q1 q2 q3 q5
  obtain ⟨⟨_, d1, _, _⟩, _⟩ := row4 q2
  obtain ⟨_, e1⟩ := q1.c i hiP
  have ef := q1.free (i * 2 + 1)
  have HK : Hid (ChOut w base b g (.slice a (M.zs ls).length cap) n (M.st P i s) (.tuple #[]) (.returned (.tuple #[])) (W4.setCell ⟨g, i * 2 + 1, none⟩ (.string s))) := by
   unfold M.ad at hlo; rw [List.getElem?_eq_getElem hiP, Option.getD_some, hl] at hlo
   refine ⟨_, ls ++ [i], rfl, ⟨(heap_setCell_other W4 ⟨g, _, none⟩ b _ h.ne.1).trans q2, ?_, by rw [M.st_len]; exact h.len, h.n1, hok, owns_keepBut q3 (fun k hk e => heap_setCell_other W4 ⟨g, _, none⟩ k _ (fun e' => q4.2 (by rw [e, e']))), hlo, ⟨h.ne.1, q4⟩, h.low⟩, ((Ch.ofBelow (bel1 w _)).trans q5).trans (Ch.cell g _ _ (fp_g _ _ _))⟩
   rw [M.st_eq P i s hiP]
   exact q1.set1 i hiP s
  clear h hX1 hok hlo hl q1 q2 q3 q4 q5 mf rf ho hrw ez; rw [hE] at e1; clear hE
  generalize P[i].1 = fl at *
  have he := is_nil
  generalize hll : (M.zs ls).length = ll at *
  go_enter Tryz.func120, Tryz.ntmps120
  go_upto_region 2 with (at_builtin; refine wpList_append_known rfl (.tmp 19) (.tmp 21) 82 rfl _ _ (by simp [Act.eval]) (by simp [Act.eval]) _ _ hrun ?_)
  rw [HW4.out]; clear HW4 hrun c0 c1 r0 r1 r2 r3; go_wp2
  go_end0
  exact HK.out
theorem piece_eq (s : ByteArray) (k : Nat) (h : k < s.size / 64) : piece s 64 k = M.pc s k := by
 have h' : k * 64 + 64 ≤ s.size := by omega
 unfold piece M.pc
 apply ByteArray.ext
 apply Array.ext'
 have e : (s.extract (k * 64) (k * 64 + 64)).data.toList = (s.data.toList.drop (k * 64)).take 64 := by rw [extract_list s _ _ h']; congr 1; omega
 rw [e]
 have hl : ((s.data.toList.drop (k * 64)).take 64).length = 64 := by rw [List.length_take, List.length_drop, len_data]; omega
 simp [M.ofL, pad, hl]
theorem count_64 (s : ByteArray) (h : s.size % 64 = 0) : count s 64 = s.size / 64 := by unfold count; omega
def WrOut (w : World) (base b g : Nat) (vl : Value) (n : Nat) (P : List M.Pl) (at' : Int) (s : ByteArray) (e : Ending) (w' : World) : Prop := ChOut w base b g vl n (M.wrote n false P at' s) (.int .i64 (M.wcode n false at' s)) e w'
theorem write_any (base b g : Nat) (vl : Value) (n : Nat) (P : List M.Pl) (ls : List Nat) (at' : Int) (s : ByteArray) (w : World) (hb : base ≤ w.heap.size) (h : DI w base b g vl n P ls) (hs : s.size ≤ 131072) :
  Calls Tryz.prog 71 #[.pointer (some ⟨b, 0, none⟩), .int .i64 at', .string s] w (WrOut w base b g vl n P at' s) := by
 by_cases hm : s.size % 64 = 0
 ·have hmi : (s.size : Int) % 64 = 0 := by omega
  have hmt : (s.size : Int).tmod 64 = 0 := by rw [Int.tmod_eq_emod_of_nonneg (by omega)]; exact hmi
  have hdv : (s.size : Int).tdiv 64 = ((s.size / 64 : Nat) : Int) := by rw [Int.tdiv_eq_ediv_of_nonneg (by omega)]; omega
  have hdm : (s.size : Int) / 64 = ((s.size / 64 : Nat) : Int) := by omega
  have hwc : M.wcode n false at' s = M.refused n false at' ((s.size / 64 : Nat) : Int) := by unfold M.wcode; simp [hm]
  obtain ⟨m, hmm⟩ := Nq (s.size / 64)
  rw [hmm] at hdv hdm hwc
  have href := refused_any b n _ _ false at' (m : Int) w h.row h.n1.2 (by omega)
  by_cases hz : M.refused n false at' (m : Int) = 0
  ·obtain ⟨_, a, k, rfl, hk, hk1, hak⟩ := M.refused_ok hz
   obtain rfl : m = k := by omega
   have HW : Hid (M.wrote n false P (a : Int) s = M.wr P a s m ∧ M.wcode n false (a : Int) s = 0) := by
    refine ⟨?_, by rw [hwc, hz]⟩
    unfold M.wrote; rw [hwc, hz, hmm]
    simp
   have HX := Hf h
   have HP : Hid (∀ k (hk : k < m), piece s 64 k = M.pc s k ∧ (M.pc s k).size = 64) := fun k hk => ⟨piece_eq s k (by omega), M.pc_size s k (by omega)⟩
   have hcut := cut_any s 64 w hs (by omega)
   have ecut : cutOut s 64 = (pieces s 64, 0) := by simp [cutOut]
   rw [ecut] at hcut
   have hpl : (pieces s 64).length = m := by rw [pieces_length, count_64 s hm, hmm]
   have HG : Hid (∀ k (hk : k < (pieces s 64).length), (pieces s 64)[k] = piece s 64 k) := fun k hk => by simp [pieces]
   rw [hz] at href
   have hn := h.n1.2
   clear h hz hwc ecut hmi
   go_enter Tryz.func71, Tryz.ntmps71
   go_wp2_with fail
   refine href.mono ?_; rintro e w1 ⟨rfl, rfl⟩
   go_wp2_with fail
   refine hcut.mono ?_; rintro e w2 ⟨aa, cap, rfl, hat, hb2, hnew⟩
   have hX2 := HX.out.keep hb2
   have hbb := hb2.size
   have HB2 := Hf hb2
   have HAT : Hid (AtT w2 aa (pieces s 64) ∧ ∀ k, blk aa k → ¬ fp b g vl k) := ⟨hat, fun k hk hF => by have := hnew k hk; have := (HX.out.mine k hF).2; omega⟩
   have HX2 := Hf hX2
   clear hcut href HX hat hX2 hnew hb2
   generalize hLL : pieces s 64 = L at *
   rw [hpl]; go_wp2
   go_loopw [35] (fun i wr => ∃ (k : Nat) (vl' : Value) (ls' : List Nat), k ≤ m ∧ i = .int .i64 k ∧ DI wr base b g vl' n (M.wr P a s k) ls' ∧ Ch w1 (fp b g vl) wr (fp b g vl') ∧ Ch w2 (fp b g vl) wr (fp b g vl')) (fun i _ => m - (intOf i).toNat)
   case atStart => exact ⟨0, vl, ls, Nat.zero_le _, rfl, HX2.out, Ch.ofBelow HB2.out, Ch.refl _ _⟩
   case round =>
    obtain ⟨k, vl', ls', hk, rfl, hX, hC, hC2⟩ := hrel
    by_cases hlt : k < m
    ·obtain ⟨bb, off, rfl, c0⟩ := (HAT.out.1.keepBut (w' := wr) fun j hj hbl => hC2.block j hj (HAT.out.2 j hbl)) k (by omega)
     rw [HG.out k (by omega), (HP.out k hlt).1] at c0
     have hsz := (HP.out k hlt).2
     have hlo := loosen_any base b g vl' n (M.wr P a s k) ls' (a + k) (M.pc s k) wr (by have := hC.size; omega) hX (by omega) hsz
     have HM : Hid (M.st (M.wr P a s k) (a + k) (M.pc s k) = M.wr P a s (k + 1)) := rfl
     rw [HM.out] at hlo
     have HC := Hf (And.intro hC hC2)
     clear hX hC hC2 HX2 HAT HG HP HM
     generalize M.pc s k = pk at *
     go_wp2_with fail
     rw [show (a : Int) + (k : Int) = ((a + k : Nat) : Int) by omega]
     refine hlo.mono ?_; rintro e w3 ⟨vl3, ls3, rfl, hX3, hC3⟩
     have HR := Hf (And.intro hX3 (And.intro (HC.out.1.trans hC3) (HC.out.2.trans hC3)))
     clear hX3 hC3 HC hlo; go_wp2
     go_roundw
     case rel => exact ⟨k + 1, vl3, ls3, by omega, by go_num, HR.out⟩
     case measure => simp [intOf]; omega
    ·obtain rfl : k = m := by omega
     have HK : Hid (WrOut w1 base b g vl n P (a : Int) s (.returned (.int .i64 0)) wr) := by
      unfold WrOut; rw [HW.out.1, HW.out.2]
      exact ⟨vl', ls', rfl, hX, hC⟩
     clear hX hC HX2 HW hC2; go_wp2
     go_ret
     exact HK.out
  ·have HK : Hid (WrOut w base b g vl n P at' s (.returned (.int .i64 (M.refused n false at' (m : Int)))) w) := by
    unfold WrOut M.wrote; rw [hwc, decide_eq_false hz]
    exact ⟨vl, ls, rfl, h, Ch.refl _ _⟩
   have hz' : (M.refused n false at' (m : Int) == 0) = false := by simpa using hz
   generalize M.refused n false at' (m : Int) = r at *
   clear h hwc
   go_enter Tryz.func71, Tryz.ntmps71
   go_wp2_with fail
   refine href.mono ?_; rintro e w1 ⟨rfl, rfl⟩
   clear href; go_wp2
   go_ret
   exact HK.out
 ·have hmt : (s.size : Int).tmod 64 ≠ 0 := by rw [Int.tmod_eq_emod_of_nonneg (by omega)]; omega
  have hmt' : ((s.size : Int).tmod 64 == 0) = false := by simpa using hmt
  have hme : ((s.size : Int) % 64 == 0) = false := by simp; omega
  have HK : Hid (WrOut w base b g vl n P at' s (.returned (.int .i64 1)) w) := by
   have : M.wcode n false at' s = 1 := by unfold M.wcode; simp [hm]
   unfold WrOut M.wrote; rw [this]
   exact ⟨vl, ls, rfl, h, Ch.refl _ _⟩
  clear h
  go_enter Tryz.func71, Tryz.ntmps71
  go_wp2
  go_ret
  exact HK.out
theorem grown_drew {a b : World} {r : Option Nat} (h : a.grownBy b r) : a.grownBy b.drew r := ⟨h.os, h.tape, h.output, h.size, h.block⟩
structure LI (w : World) (base b n : Nat) : Prop where
 row : w.heap[b]? = some (.cells #[.int .i64 n, .slice none 0 0, .slice none 0 0, .bool true] 84 (0, 0))
 n1 : 1 ≤ n ∧ n ≤ 4096
 low : base ≤ b
section
variable {w w1 : World} {base b g : Nat} {vl vl' : Value} {n : Nat} {P P' Q : List M.Pl} {ls ls' : List Nat}
theorem LI.lt (h : LI w base b n) : b < w.heap.size := (Array.getElem?_eq_some_iff.1 h.row).1
theorem Ch.grown {F : Nat → Prop} (h : w.grownBy w1 (some g)) (hg : F g) : Ch w F w1 F :=
 ⟨h.os, h.tape, h.output, h.size, fun k hk hF => h.block k hk (fun e => hF (by cases e; exact hg)), fun k h => .inl h⟩
theorem DI.none (h : DI w base b g vl n P ls) (hg : w.grownBy w1 (some g)) (hp : PR w1 g Q) (hl : Q.length = P.length) (ho : M.Ok Q) (hn : ∀ p ∈ Q, M.lse p = false) :
  DI (w1.setCell ⟨b, 2, none⟩ (.slice none 0 0)) base b g (.slice none 0 0) n Q [] ∧ Ch w (fp b g vl) (w1.setCell ⟨b, 2, none⟩ (.slice none 0 0)) (fp b g (.slice none 0 0)) := by
 have hrow : w1.heap[b]? = some (.cells #[.int .i64 n, .slice (some ⟨g, 0, Option.none⟩) n n, vl, .bool false] 84 (0, 0)) := (hg.block b h.lt (fun e => h.ne.1 (by cases e; rfl))).trans h.row
 refine ⟨⟨heap_setCell_same w1 b 2 _ _ _ hrow, (heap_setCell_other w1 ⟨b, 2, Option.none⟩ g _ (fun e => h.ne.1 e.symm)).trans hp, hl.trans h.len, h.n1, ho, World.ownsRow_nil _ _ _ _, M.Lo.none hn, ⟨h.ne.1, by simp [Value.ownBlock], by simp [Value.ownBlock]⟩, h.low⟩, ?_⟩
 have h1 : Ch w (YtlnedgjikkhplaaGreat.Ns.fp b g vl) (w1.setCell ⟨b, 2, Option.none⟩ (.slice Option.none 0 0)) (YtlnedgjikkhplaaGreat.Ns.fp b g vl) := (Ch.grown hg (fp_g _ _ _)).trans (Ch.cell b 2 _ (fp_b _ _ _))
 refine ⟨h1.os, h1.tape, h1.output, h1.size, h1.block, fun k hk => .inl ?_⟩
 rcases hk with h' | h' | h'
 ·exact .inl h'
 ·exact .inr (.inl h')
 ·simp [Value.ownBlock] at h'
end
theorem flush_any (base b g : Nat) (vl : Value) (n : Nat) (P : List M.Pl) (ls : List Nat) (w : World) (h : DI w base b g vl n P ls) :
  Calls Tryz.prog 109 #[.pointer (some ⟨b, 0, none⟩)] w (ChOut w base b g vl n (M.flush P) (.tuple #[])) := by
 obtain ⟨⟨_, _, r2, _⟩, _⟩ := row4 h.row
 obtain ⟨a, cap, rfl, hat, hbl, hcap⟩ := owns_at h.own
 have HX := Hf h
 have hlsn := h.lsn
 have hn := h.n1
 have HBL : Hid (∀ k, blk a k → k ≠ g) := fun k hk e => h.ne.2.2 (by rw [(hbl k hk).2.1, e])
 have hzl := M.zs_len ls
 have HAT := Hf hat
 clear h hat hbl hcap; rw [hzl] at r2
 go_enter Tryz.func109, Tryz.ntmps109
 go_wp2
 go_loopw [11] (fun i wr => ∃ k : Nat, k ≤ ls.length ∧ i = .int .i64 k ∧ PR wr g (M.half P (ls.take k)) ∧ w.grownBy wr (some g)) (fun i _ => ls.length - (intOf i).toNat)
 case atStart => exact ⟨0, Nat.zero_le _, rfl, by rw [List.take_zero, M.half_nil]; exact HX.out.pl, World.grownBy.refl _ _⟩
 case round =>
  obtain ⟨k, hk, rfl, hp, hg⟩ := hrel
  have hrow : wr.heap[b]? = _ := (hg.block b HX.out.lt (fun e => HX.out.ne.1 (by cases e; rfl))).trans HX.out.row
  obtain ⟨⟨s0, s1, s2, s3⟩, sf⟩ := row4 hrow
  by_cases hlt : k < ls.length
  ·obtain ⟨bb, off, rfl, c0⟩ := (HAT.out.keepBut (w' := wr) fun j hj hbl => hg.block j hj (fun e => HBL.out j hbl (by cases e; rfl))).int k (by rw [hzl]; exact hlt)
   rw [M.zs_get ls k hlt] at c0
   have hmem : ls[k] ∈ ls := List.getElem_mem hlt
   obtain ⟨hiP, _⟩ := (HX.out.lo.2 _).1 hmem
   have hnt : ls[k] ∉ ls.take k := by
    have hnd := HX.out.lo.1
    rw [← List.take_append_drop k ls, List.nodup_append] at hnd
    intro hm
    exact hnd.2.2 _ hm _ (by rw [← List.getElem_cons_drop hlt]; exact List.mem_cons_self) rfl
   have hin : ls[k] < n := by rw [← HX.out.len]; exact hiP
   obtain ⟨e1, e2⟩ := M.half_step P (ls.take k) ls[k] hiP hnt
   have hil : ls[k] < (M.half P (ls.take k)).length := by rw [M.half_len]; exact hiP
   obtain ⟨p0, p1⟩ := hp.c ls[k] hil
   have pf0 := hp.free (ls[k] * 2)
   have pf1 := hp.free (ls[k] * 2 + 1)
   have HP : Hid (PR ((wr.setCell ⟨g, ls[k] * 2, none⟩ (.string P[ls[k]].2)).setCell ⟨g, ls[k] * 2 + 1, none⟩ (.string M.E)).drew g (M.half P (ls.take (k + 1))) ∧ w.grownBy ((wr.setCell ⟨g, ls[k] * 2, none⟩ (.string P[ls[k]].2)).setCell ⟨g, ls[k] * 2 + 1, none⟩ (.string M.E)).drew (some g)) := by
    refine ⟨?_, grown_drew (grown_trans (grown_trans hg (grown_set _ _ _ _)) (grown_set _ _ _ _))⟩
    show PR ((wr.setCell ⟨g, ls[k] * 2, none⟩ (.string P[ls[k]].2)).setCell ⟨g, ls[k] * 2 + 1, none⟩ (.string M.E)) g (M.half P (ls.take (k + 1)))
    have h1 := hp.set0 ls[k] hil P[ls[k]].2
    have h2 := h1.set1 ls[k] (by simpa using hil) M.E
    rw [List.take_succ_eq_append_getElem hlt, ← e2]
    simpa using h2
   rw [e1] at p0 p1; clear hp hg hmem hnt e1 e2 hil HX HAT HBL hrow sf
   generalize P[ls[k]].2 = wn at *
   generalize P[ls[k]].1 = fl at *
   generalize hii : ls[k] = i at *
   go_wp2_with fail
   go_region
   all_goals
    go_wp2
    go_roundw
    case rel => exact ⟨k + 1, by omega, by go_num, HP.out⟩
    case measure => simp [intOf]; omega
  ·obtain rfl : k = ls.length := by omega
   rw [List.take_length, M.half_all HX.out.lo] at hp
   obtain ⟨q1, q2⟩ := HX.out.none hg hp (M.flush_len P) (M.flush_ok HX.out.ok) (M.flush_lse P)
   have HK : Hid (ChOut w base b g (.slice a (M.zs ls).length cap) n (M.flush P) (.tuple #[]) (.returned (.tuple #[])) (wr.setCell ⟨b, 2, none⟩ (.slice none 0 0))) := ⟨_, [], rfl, q1, q2⟩
   have sf2 := sf 2
   clear q1 q2 hp hg HX HAT HBL hrow sf; go_wp2
   go_end0
   exact HK.out
theorem flush_lost (base b n : Nat) (w : World) (h : LI w base b n) : Calls Tryz.prog 109 #[.pointer (some ⟨b, 0, none⟩)] w fun e w' => e = .returned (.tuple #[]) ∧ LI w' base b n ∧ Ch w (· = b) w' (· = b) := by
 obtain ⟨⟨_, _, r2, _⟩, rf⟩ := row4 h.row
 have HK : Hid (LI (w.setCell ⟨b, 2, none⟩ (.slice none 0 0)) base b n ∧ Ch w (· = b) (w.setCell ⟨b, 2, none⟩ (.slice none 0 0)) (· = b)) := ⟨⟨heap_setCell_same w b 2 _ _ _ h.row, h.n1, h.low⟩, Ch.cell b 2 _ rfl⟩
 have rf2 := rf 2
 clear h rf
 go_enter Tryz.func109, Tryz.ntmps109
 go_wp2
 go_loopw [11] (fun i wr => i = .int .i64 0 ∧ wr = w) (fun i _ => 0)
 case atStart => exact ⟨rfl, rfl⟩
 case round =>
  obtain ⟨rfl, rfl⟩ := hrel
  go_wp2
  go_end0
  exact ⟨rfl, HK.out⟩
end Go.Proofs.YtlnedgjikkhplaaGreat.Ns
