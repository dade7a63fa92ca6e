/-
  The map of a text.
-/
import Derived.Test.YtigoadfbccpmkaaJ
import Derived.Test.YtigoadfbccpmkaaQ
import Derived.Deep.Cut
import Derived.Deep.CutRange
import Derived.Deep.CutBlock
namespace Go.Proofs.Ytigoadfbccpmkaa
open Go.RowKit
set_option linter.unusedVariables false

theorem fold_get : ∀ (vs : List Value) (k : Nat) (c : Array Value) (j : Nat), ((vs.zipIdx k).foldl (fun cs x => cs.setIfInBounds (1 + x.2) x.1) c)[j]? = if 1 + k ≤ j ∧ j < 1 + k + vs.length ∧ j < c.size then vs[j - 1 - k]? else c[j]?
  | [], k, c, j => by
    rw [if_neg (by simp; omega)]
    rfl
  | v :: r, k, c, j => by
    rw [List.zipIdx_cons, List.foldl_cons, fold_get r (k + 1), Array.size_setIfInBounds, Array.getElem?_setIfInBounds]
    by_cases h1 : 1 + k = j
    · subst h1
      rw [if_neg (by omega)]
      by_cases h2 : 1 + k < c.size
      · rw [if_pos rfl, if_pos h2, if_pos (by simp; omega)]
        simp
      · rw [if_pos rfl, if_neg h2, if_neg (by omega), Array.getElem?_eq_none (by omega)]
    · rw [if_neg h1]
      by_cases h2 : 1 + k ≤ j ∧ j < 1 + k + (v :: r).length ∧ j < c.size
      · have h3 := h2
        simp only [List.length_cons] at h3
        rw [if_pos (by omega), if_pos h2, show j - 1 - k = (j - 1 - (k + 1)) + 1 by omega, List.getElem?_cons_succ]
      · have h3 := h2
        simp only [List.length_cons] at h3
        rw [if_neg (by omega), if_neg h2]
theorem fold_MA (m : Nat) (f : Nat → Bool) : Array.foldl (fun cs x => cs.setIfInBounds (1 + x.snd) x.fst) (MA m M.nof) (WA f).zipIdx 0 64 = MA m f := by
  have e : Array.foldl (fun cs x => cs.setIfInBounds (1 + x.snd) x.fst) (MA m M.nof) (WA f).zipIdx 0 (WA f).zipIdx.size = MA m f := by
    rw [← Array.foldl_toList, Array.toList_zipIdx]
    apply Array.ext_getElem?
    intro j
    rw [fold_get, Array.length_toList, WA_size, MA_size]
    by_cases h : j = 0
    · subst h; rw [if_neg (by omega), MA_zero, MA_zero]
    · obtain ⟨i, rfl⟩ : ∃ i, j = 1 + i := ⟨j - 1, by omega⟩
      rw [MA_word, MA_word]
      by_cases h2 : i < 64
      · rw [if_pos (by omega), show 1 + i - 1 - 0 = i by omega, Array.getElem?_toList]
      · rw [if_neg (by omega), Array.getElem?_eq_none (by rw [WA_size]; omega), Array.getElem?_eq_none (by rw [WA_size]; omega)]
  rwa [Array.size_zipIdx, WA_size] at e
/-- What Read tells. -/
def rdE (l : List UInt8) (n : Int) : Int := if n < 0 ∨ 4096 < n then 1 else if l.length ≠ (n.toNat + 7) / 8 then 2 else if eqw (M.andf (fs l) (M.rowf 0 n.toNat)) (fs l) then 0 else 3
def ReadOut (w : World) (l : List UInt8) (n : Int) (e : Ending) (w' : World) : Prop :=
  Below w.heap.size w w' ∧ if rdE l n = 0 then ∃ b, e = .returned (.tuple #[.pointer (some ⟨b, 0, none⟩), .int .i64 0]) ∧ w.heap.size ≤ b ∧ MIs w' b n.toNat (fs l) else e = .returned (.tuple #[.pointer none, .int .i64 (rdE l n)])
theorem readOut_err {w w' : World} {l : List UInt8} {n x : Int} (hb : Below w.heap.size w w') (h : rdE l n = x) (hx : x ≠ 0) : ReadOut w l n (.returned (.tuple #[.pointer none, .int .i64 x])) w' :=
  ⟨hb, by rw [if_neg (by rw [h]; exact hx), h]⟩
theorem fs_in (l : List UInt8) (n : Nat) (hn : n ≤ 4096) (h : l.length = (n + 7) / 8) (he : eqw (M.andf (fs l) (M.rowf 0 n)) (fs l) = true) : ∀ i, n ≤ i → fs l i = false := by
  intro i hi
  by_cases h2 : i < 4096
  · have := (eqw_iff _ _).1 he i h2
    rw [← this]
    simp [M.andf, M.rowf]
    omega
  · exact fs_off l i (by omega)

set_option maxRecDepth 100000 in
set_option maxHeartbeats 4000000 in
theorem read_any (s : ByteArray) (n : Int) (w : World) :
    Calls Try.prog 28 #[.string s, .int .i64 n] w (ReadOut w s.data.toList n) := by
  by_cases h1 : n < 0
  · have HE : Hid (rdE s.data.toList n = 1) := by show _ = _; rw [rdE, if_pos (.inl h1)]
    have hd : decide (n < 0) = true := by simpa using h1
    go_enter Try.func28, Try.ntmps28
    go_wp2
    go_ret2
    exact readOut_err (Below.refl _ _) HE.out (by decide)
  have hd : decide (n < 0) = false := by simpa using h1
  by_cases h2 : 4096 < n
  · have HE : Hid (rdE s.data.toList n = 1) := by show _ = _; rw [rdE, if_pos (.inr h2)]
    have hd2 : decide (4096 < n) = true := by simpa using h2
    go_enter Try.func28, Try.ntmps28
    go_wp2
    go_ret2
    exact readOut_err (Below.refl _ _) HE.out (by decide)
  have hd2 : decide (4096 < n) = false := by simpa using h2
  obtain ⟨m, rfl⟩ := Int.eq_ofNat_of_zero_le (show 0 ≤ n by omega)
  have hm : m ≤ 4096 := by omega
  have hT := textLength_any m hm w
  by_cases h3 : s.size = (m + 7) / 8
  · have hneq : ((s.size : Int) != (((m + 7) / 8 : Nat) : Int)) = false := by simp; omega
    have HE : Hid (rdE s.data.toList (m : Int) = if eqw (M.andf (fs s.data.toList) (M.rowf 0 m)) (fs s.data.toList) then 0 else 3) := by
      show _ = _
      rw [rdE, if_neg (by omega), if_neg (by rw [len_data]; simp; omega)]
      rfl
    have HIN : Hid (eqw (M.andf (fs s.data.toList) (M.rowf 0 m)) (fs s.data.toList) = true → ∀ i, m ≤ i → fs s.data.toList i = false) := fun he => fs_in _ m hm (by rw [len_data]; omega) he
    have hP := parse_any s w (by omega)
    generalize hfs : fs s.data.toList = f at *
    have HFS : Hid (fs s.data.toList = f) := hfs
    clear hfs
    have eq3 := fun w => equal64 (M.andf f (M.rowf 0 m)) f w
    generalize eqw (M.andf f (M.rowf 0 m)) f = q at *
    go_enter Try.func28, Try.ntmps28
    go_wp2_with fail
    refine hT.mono ?_
    rintro e w0 ⟨rfl, rfl⟩
    go_wp2_with fail
    refine hP.mono ?_
    rintro e w1 ⟨rfl, hb1⟩
    have st1 := store64_new w1 f
    have gv2 := load64_row ((w1.alloc (.cells (WA f) 64)).drew) w1.heap.size f (0, 0) (heap_alloc_last w1 _)
    clear hT hP
    go_upto_region 6 with fail
    go_cut [25] from 20 to 25 (fun s wx => s = .bool (!q) ∧ Below w0.heap.size w0 wx ∧ wx.heap[w1.heap.size]? = some (.cells (WA f) 64 (0, 0)))
    case first =>
      clear st1
      go_region_with ((first | (go_at_call 32; refine (row_any 0 m (by omega) _).mono ?_; rintro e w2 ⟨rfl, hb2⟩; have r2 : w2.heap[w1.heap.size]? = some (.cells (WA f) 64 (0, 0)) := (hb2.block w1.heap.size (by simp)).trans (heap_alloc_last w1 _); have l2 := load64_row w2 w1.heap.size f (0, 0) r2; have hlt2 : w1.heap.size < w2.heap.size := (by have := hb2.size; simp at this; omega)) | (go_at_call 35; refine (both_any f (M.rowf 0 m) _).mono ?_; rintro e w3 ⟨rfl, hb3⟩; have r3 : w3.heap[w1.heap.size]? = some (.cells (WA f) 64 (0, 0)) := (hb3.block w1.heap.size hlt2).trans r2; have l3 := load64_row w3 w1.heap.size f (0, 0) r3)))
      all_goals
        have B2 : Below w0.heap.size w0 w2 := (hb1.alloc hb1.size _).trans (Below.mono ⟨hb2.os, hb2.tape, hb2.output, hb2.size, hb2.block⟩ (by have := hb1.size; simp; omega))
        have B3 : Below w0.heap.size w0 w3 := B2.trans (hb3.mono B2.size)
        go_wp2_with fail
        go_meet
        case rel => exact ⟨rfl, B3, r3⟩
    case rest =>
      obtain ⟨rfl, B3, r3⟩ := hcut
      have l4 := load64_row wc w1.heap.size f (0, 0) r3
      clear gv2 st1 eq3 r3
      cases q
      · clear HIN hb1
        go_wp2
        go_ret2
        exact readOut_err B3 HE.out (by decide)
      · clear hb1
        go_wp2
        have hs0 := MA_size 0 M.nof
        have hfold := fold_MA m f
        simp only [sz64_eq, Result.andThen_ok, hs0, hfold, not_true_eq_false, Nat.lt_irrefl, or_self, ↓reduceIte, Sem.run_pure]
        rw [Oper.upon_value]
        clear hs0 hfold
        go_wp2
        go_ret2
        have hE : rdE s.data.toList (m : Int) = 0 := HE.out.trans (if_pos (by first | rfl | trivial))
        refine ⟨B3.alloc B3.size _, ?_⟩
        rw [if_pos hE, HFS.out]
        exact ⟨wc.heap.size, rfl, B3.size, heap_alloc_last wc _, hm, HIN.out (by first | rfl | trivial)⟩
  · have hneq : ((s.size : Int) != (((m + 7) / 8 : Nat) : Int)) = true := by simp; omega
    have HE : Hid (rdE s.data.toList (m : Int) = 2) := by
      show _ = _
      rw [rdE, if_neg (by omega), if_pos (by rw [len_data]; simp; omega)]
    go_enter Try.func28, Try.ntmps28
    go_wp2_with fail
    refine hT.mono ?_
    rintro e w0 ⟨rfl, rfl⟩
    go_wp2
    go_ret2
    exact readOut_err (Below.refl _ _) HE.out (by decide)
end Go.Proofs.Ytigoadfbccpmkaa
