/-
  A row of bits as an array; a map in memory; the calls that read it.
-/
import Derived.Test.YtigoadfbccpmkaaA
namespace Go.Proofs.Ytigoadfbccpmkaa
open Go.RowKit
set_option linter.unusedVariables false

theorem row_bits (a k : Nat) : bits .or .u64 (M.wd (M.rowf a k) ((a + k) / 64) : Int) (IntKind.u64.wrap (2 ^ ((a + k) % 64))) = (M.wd (M.rowf a (k + 1)) ((a + k) / 64) : Int) := by
  have h64 : (a + k) % 64 < 64 := Nat.mod_lt _ (by decide)
  have hp : 2 ^ ((a + k) % 64) < 18446744073709551616 := Nat.pow_lt_pow_right (a := 2) (by decide) h64
  have e : IntKind.u64.wrap (2 ^ ((a + k) % 64)) = ((2 ^ ((a + k) % 64) : Nat) : Int) := by
    rw [IntKind.wrap_u64]
    have : ((2 : Int) ^ ((a + k) % 64)) = ((2 ^ ((a + k) % 64) : Nat) : Int) := by simp
    rw [this]
    generalize 2 ^ ((a + k) % 64) = q at hp
    omega
  rw [e, u64_or_nat _ _ (M.wd_lt _ _) hp, M.wd_rowstep]
set_option maxRecDepth 100000 in
set_option maxHeartbeats 1000000 in
theorem row_any (a n : Nat) (h : a + n ≤ 4096) (w : World) :
    Calls Try.prog 32 #[.int .i64 a, .int .i64 n] w fun e w' => e = .returned (.agg (WA (M.rowf a n))) ∧ Below w.heap.size w w' := by
  go_enter Try.func32, Try.ntmps32
  go_wp2
  go_loopw [6] (fun i wr => ∃ k : Nat, k ≤ n ∧ i = .int .i64 (a + k : Nat) ∧ Below w.heap.size w wr ∧ wr.heap[w.heap.size]? = some (.cells (WA M.nof) 64 (0, 0)) ∧ wr.heap[w.heap.size + 1]? = some (.cells (WA (M.rowf a k)) 64 (0, 0))) (fun i _ => a + n - (intOf i).toNat)
  case atStart =>
    exact ⟨0, by omega, rfl, ((Below.refl w.heap.size w).alloc (Nat.le_refl _) _).alloc (by simp) _, (up2 w _ _).1, by rw [WA_ext (M.rowf a 0) M.nof (fun j _ => M.wd_congr _ _ _ fun i _ => by simp [M.rowf, M.nof])]; exact (up2 w _ _).2⟩
  case round =>
    obtain ⟨k, hk, rfl, hbel, h0, h1⟩ := hrel
    by_cases hlt : k < n
    · have hq : (a + k) / 64 < 64 := by omega
      have c1 := (cell_of_row wr _ ((a + k) / 64) _ _ _ h1).trans (WA_get _ _ hq)
      have f1 := frozen_of_row wr _ ((a + k) / 64) _ _ h1
      have hi : a + k < 4096 := by omega
      have hin : a + k < a + n := by omega
      have hia : (a : Int) + n = (a + n : Nat) := by omega
      have hin' : decide (((a + k : Nat) : Int) < ((a + n : Nat) : Int)) = true := by simp; omega
      have hz := row_bits a k
      have HB : Hid (Below w.heap.size w (wr.setCell ⟨w.heap.size + 1, (a + k) / 64, none⟩ (.int .u64 (M.wd (M.rowf a (k + 1)) ((a + k) / 64))))) := hbel.setCell (by simp) _
      have H1 : Hid ((wr.setCell ⟨w.heap.size + 1, (a + k) / 64, none⟩ (.int .u64 (M.wd (M.rowf a (k + 1)) ((a + k) / 64)))).heap[w.heap.size + 1]? = some (.cells (WA (M.rowf a (k + 1))) 64 (0, 0))) := by
        show _ = _
        rw [heap_setCell_same wr _ _ _ _ _ h1, WA_set _ (M.rowf a (k + 1)) ((a + k) / 64) _ hq (fun j _ hj => M.wd_rowoth a k j hj) rfl]
      have H0 : Hid ((wr.setCell ⟨w.heap.size + 1, (a + k) / 64, none⟩ (.int .u64 (M.wd (M.rowf a (k + 1)) ((a + k) / 64)))).heap[w.heap.size]? = some (.cells (WA M.nof) 64 (0, 0))) := (heap_setCell_other wr _ _ _ (by simp)).trans h0
      clear h0 h1 hbel
      generalize M.wd (M.rowf a (k + 1)) ((a + k) / 64) = z at *
      generalize M.wd (M.rowf a k) ((a + k) / 64) = x at *
      generalize hI : a + k = i at *
      generalize hS : a + n = s at *
      have HI : Hid (a + k = i) := hI
      clear hI
      go_wp2
      go_region
      all_goals go_wp2
      all_goals go_roundw
      case rel => exact ⟨k + 1, by omega, by rw [show a + (k + 1) = i + 1 by have := HI.out; omega]; go_num, below_drewN HB.out _, H0.out, H1.out⟩
      case measure => have := HI.out; simp [intOf]; omega
    · have hkn : k = n := by omega
      subst hkn
      have hia : (a : Int) + k = (a + k : Nat) := by omega
      have l0 := load64_row wr _ _ _ h1
      have s2 := store64_row wr w.heap.size (M.rowf a k) _ h0
      have HB : Hid (Below w.heap.size w (wr.setRow w.heap.size (WA (M.rowf a k)))) := below_setRow hbel (by omega) _
      have HR : Hid ((wr.setRow w.heap.size (WA (M.rowf a k))).heap[w.heap.size]? = some (.cells (WA (M.rowf a k)) 64 (0, 0))) := setRow_heap wr _ _ _ _ _ h0
      clear h0 h1 hbel
      generalize hS : a + k = s at *
      go_wp2
      refine bodyPost_ret (v := .agg (WA (M.rowf a k))) ?_ rfl ⟨rfl, HB.out⟩
      exact res64 Try.results32 _ _ _ _ rfl HR.out

/-- A map at block b: n bits, those of f. -/
def MA (n : Nat) (f : Nat → Bool) : Array Value := #[Value.int .i64 n] ++ WA f
theorem MA_zero (n : Nat) (f : Nat → Bool) : (MA n f)[0]? = some (.int .i64 n) := by simp [MA]
theorem MA_word (n : Nat) (f : Nat → Bool) (k : Nat) : (MA n f)[1 + k]? = (WA f)[k]? := by
  unfold MA
  rw [Array.getElem?_append_right (by simp)]
  simp
theorem MA_size (n : Nat) (f : Nat → Bool) : (MA n f).size = 65 := by simp [MA]
structure MIs (w : World) (b n : Nat) (f : Nat → Bool) : Prop where
  row : w.heap[b]? = some (.cells (MA n f) 66 (0, 0))
  le : n ≤ 4096
  off : ∀ i, n ≤ i → f i = false
theorem MIs.keep {w w' : World} {b n : Nat} {f : Nat → Bool} (h : MIs w b n f) (hb : w'.heap[b]? = w.heap[b]?) : MIs w' b n f := ⟨by rw [hb]; exact h.row, h.le, h.off⟩
theorem MIs.lt {w : World} {b n : Nat} {f : Nat → Bool} (h : MIs w b n f) : b < w.heap.size := by
  rcases Nat.lt_or_ge b w.heap.size with h' | h'
  · exact h'
  · have := h.row; rw [Array.getElem?_eq_none h'] at this; cases this
theorem MIs.below {w w' : World} {b n : Nat} {f : Nat → Bool} (h : MIs w b n f) (hb : Below w.heap.size w w') : MIs w' b n f := h.keep (hb.block b h.lt)
theorem MIs.c0 {w : World} {b n : Nat} {f : Nat → Bool} (h : MIs w b n f) : w.cell? ⟨b, 0, none⟩ = some (.int .i64 n) := (cell_of_row w b 0 _ _ _ h.row).trans (MA_zero n f)
theorem MIs.cw {w : World} {b n : Nat} {f : Nat → Bool} (h : MIs w b n f) (k : Nat) (hk : k < 64) : w.cell? ⟨b, 1 + k, none⟩ = some (.int .u64 (M.wd f k)) :=
  (cell_of_row w b (1 + k) _ _ _ h.row).trans ((MA_word n f k).trans (WA_get f k hk))
theorem MIs.ld {w : World} {b n : Nat} {f : Nat → Bool} (h : MIs w b n f) : (ld64 ⟨b, 1, none⟩).run Try.prog w = .ok (WA f) w :=
  load64 w b 1 _ 66 (0, 0) f h.row (fun j _ => MA_word n f j)
theorem MIs.st {w : World} {b n : Nat} {f : Nat → Bool} (h : MIs w b n f) (g : Nat → Bool) : (st64 ⟨b, 1, none⟩ (WA g)).run Try.prog w = .ok () (w.setRow b (MA n g)) := by
  have := run_storeCells_at (P := Try.prog) b 1 66 (WA g).toList 0 _ w h.row (by simp [WA_size, MA_size]) (WA_one g)
  have e : ((MA n f).toList.take (1 + 0) ++ (WA g).toList ++ (MA n f).toList.drop (1 + 0 + (WA g).toList.length)).toArray = MA n g := by
    rw [List.drop_of_length_le (by simp [MA_size, WA_size])]
    simp [MA]
  rw [e] at this
  exact this
theorem MIs.set {w : World} {b n : Nat} {f : Nat → Bool} (h : MIs w b n f) (g : Nat → Bool) (hg : ∀ i, n ≤ i → g i = false) : MIs (w.setRow b (MA n g)) b n g := ⟨setRow_heap w b _ _ _ _ h.row, h.le, hg⟩

set_option maxHeartbeats 400000 in
theorem has_nil (a : Int) (w : World) :
    Calls Try.prog 30 #[.pointer none, .int .i64 a] w fun e w' => e = .returned (.bool false) ∧ w' = w := by
  go_enter Try.func30, Try.ntmps30
  go_wp2
  go_ret
  exact ⟨rfl, rfl⟩
set_option maxHeartbeats 400000 in
theorem has_any (b n : Nat) (f : Nat → Bool) (a : Int) (w : World) (h : MIs w b n f) :
    Calls Try.prog 30 #[.pointer (some ⟨b, 0, none⟩), .int .i64 a] w fun e w' => e = .returned (.bool (decide (0 ≤ a) && decide (a < n))) ∧ w' = w := by
  have c0 := h.c0
  cases h0 : decide (0 ≤ a)
  · go_enter Try.func30, Try.ntmps30
    go_wp2
    go_ret
    exact ⟨rfl, rfl⟩
  · go_enter Try.func30, Try.ntmps30
    go_wp2
    go_ret
    exact ⟨rfl, rfl⟩

/-- The bit at a place, if there is one. -/
def gt (n : Nat) (f : Nat → Bool) (a : Int) : Bool := decide (0 ≤ a) && decide (a < n) && f a.toNat
theorem get_bits (f : Nat → Bool) (i : Nat) : (((M.wd f (i / 64) : Int) / 2 ^ (i % 64)) % 2 == 1) = f i := by
  rw [← M.wd_get f i]
  have e : ((M.wd f (i / 64) : Int) / 2 ^ (i % 64)) % 2 = ((M.wd f (i / 64) / 2 ^ (i % 64) % 2 : Nat) : Int) := by simp
  rw [e, Bool.eq_iff_iff]
  simp
  omega
theorem get_bits' (f : Nat → Bool) (i : Nat) : (((M.wd f (i / 64) : Int) / 2 ^ (i % 64)).tmod 2 == 1) = f i := by
  rw [← get_bits f i, Int.tmod_eq_emod_of_nonneg]
  exact Int.ediv_nonneg (by omega) (Int.pow_nonneg (by decide))
set_option maxHeartbeats 400000 in
theorem get_in (b n : Nat) (f : Nat → Bool) (i : Nat) (w : World) (h : MIs w b n f) (hi : i < n) :
    Calls Try.prog 17 #[.pointer (some ⟨b, 0, none⟩), .int .i64 i] w fun e w' => e = .returned (.bool (f i)) ∧ w' = w := by
  have hle := h.le
  have hq : i / 64 < 64 := by omega
  have cw := h.cw (i / 64) hq
  have hg := get_bits' f i
  have hh := has_any b n f i w h
  rw [show (decide ((0 : Int) ≤ (i : Int)) && decide ((i : Int) < n)) = true by simp; omega] at hh
  generalize M.wd f (i / 64) = x at *
  go_enter Try.func17, Try.ntmps17
  go_wp2_with fail
  refine hh.mono ?_
  rintro e w1 ⟨rfl, rfl⟩
  go_wp2
  go_ret
  exact ⟨rfl, rfl⟩
set_option maxHeartbeats 400000 in
theorem get_any (b n : Nat) (f : Nat → Bool) (a : Int) (w : World) (h : MIs w b n f) :
    Calls Try.prog 17 #[.pointer (some ⟨b, 0, none⟩), .int .i64 a] w fun e w' => e = .returned (.bool (gt n f a)) ∧ w' = w := by
  cases hd : (decide (0 ≤ a) && decide (a < n))
  · have hh := has_any b n f a w h
    rw [hd] at hh
    rw [show gt n f a = false by unfold gt; rw [hd]; rfl]
    go_enter Try.func17, Try.ntmps17
    go_wp2_with fail
    refine hh.mono ?_
    rintro e w1 ⟨rfl, rfl⟩
    go_wp2
    go_ret
    exact ⟨rfl, rfl⟩
  · have he : gt n f a = f a.toNat := by unfold gt; rw [hd]; rfl
    simp at hd
    obtain ⟨i, rfl⟩ := Int.eq_ofNat_of_zero_le hd.1
    rw [he]
    exact get_in b n f i w h (by omega)
set_option maxHeartbeats 400000 in
theorem get_nil (a : Int) (w : World) :
    Calls Try.prog 17 #[.pointer none, .int .i64 a] w fun e w' => e = .returned (.bool false) ∧ w' = w := by
  go_enter Try.func17, Try.ntmps17
  go_wp2_with fail
  refine (has_nil a w).mono ?_
  rintro e w1 ⟨rfl, rfl⟩
  go_wp2
  go_ret
  exact ⟨rfl, rfl⟩

set_option maxRecDepth 100000 in
@[simp] theorem zero66 (w : World) : (zeroValue 66).run Try.prog w = .ok (.agg (MA 0 M.nof)) w := (zero_of_info (P := Try.prog) (t := 66) (n := 65) (by kernel_rfl)).1 w
@[simp] theorem MA_set0 (m n : Nat) (f : Nat → Bool) : (MA m f).setIfInBounds 0 (.int .i64 n) = MA n f := by
  unfold MA
  apply Array.ext'
  simp
@[simp] theorem MA_ne (n : Nat) (f : Nat → Bool) : (MA n f = #[]) = False := by simp [MA]
/-- A number of bits, as New takes it. -/
def sz (n : Int) : Nat := (min (max n 0) 4096).toNat
theorem sz_le (n : Int) : sz n ≤ 4096 := by unfold sz; omega
/-- A new map. -/
def NewM (w : World) (n : Nat) (f : Nat → Bool) (x : Ending) (w' : World) : Prop :=
  ∃ b, x = .returned (.pointer (some ⟨b, 0, none⟩)) ∧ w.heap.size ≤ b ∧ MIs w' b n f ∧ Below w.heap.size w w'
set_option maxHeartbeats 400000 in
theorem new_any (n : Int) (w : World) : Calls Try.prog 9 #[.int .i64 n] w (NewM w (sz n) M.nof) := by
  have HK : Hid (∀ m : Nat, m ≤ 4096 → NewM w m M.nof (.returned (.pointer (some ⟨w.heap.size, 0, none⟩))) (w.alloc (.cells (MA m M.nof) 66))) := fun m hm =>
    ⟨_, rfl, Nat.le_refl _, ⟨heap_alloc_last w _, hm, fun _ _ => rfl⟩, (Below.refl _ w).alloc (Nat.le_refl _) _⟩
  have h3 := sz_le n
  obtain ⟨k, hk⟩ : ∃ k : Nat, max n 0 = (k : Int) := ⟨(max n 0).toNat, by omega⟩
  have h2 : min (k : Int) 4096 = (sz n : Int) := by unfold sz; omega
  generalize sz n = m at *
  go_enter Try.func9, Try.ntmps9
  go_wp2
  go_ret
  exact HK.out m h3

set_option maxHeartbeats 400000 in
theorem textLength_any (n : Nat) (hn : n ≤ 4096) (w : World) : Calls Try.prog 37 #[.int .i64 n] w fun e w' => e = .returned (.int .i64 ((n + 7) / 8 : Nat)) ∧ w' = w := by
  go_enter Try.func37, Try.ntmps37
  go_wp2
  go_ret
  refine ⟨congrArg Ending.returned (congrArg (Value.int IntKind.i64) ?_), rfl⟩
  omega
end Go.Proofs.Ytigoadfbccpmkaa
