/-
  A device that is lost; one that is none; a sector of one byte; ints held against each other.
-/
import Derived.Test.YtjbdicnenkganaaF
import Derived.Test.YtjbdicnenkganaaI
namespace Go.Proofs.Ytjbdicnenkganaa
open Go.RowKit
open M (ofL ofL_size ofL_of)
set_option linter.unusedVariables false

set_option maxRecDepth 100000 in
set_option maxHeartbeats 1000000 in
/-- A write that is refused. -/
theorem write_no (b n : Nat) (v1 v2 : Value) (lost : Bool) (at' : Int) (s : ByteArray) (w : World) (h : w.heap[b]? = some (.cells #[.int .i64 n, v1, v2, .bool lost] 63 (0, 0))) (hn : n ≤ 4096) (hs : s.size ≤ maxLen) (hz : M.wcode n lost at' s ≠ 0) :
    Calls Try.prog 13 #[.pointer (some ⟨b, 0, none⟩), .int .i64 at', .string s] w fun e w' => e = .returned (.int .i64 (M.wcode n lost at' s)) ∧ w' = w := by
  unfold maxLen at hs
  by_cases hm : s.size % 64 = 0
  · have hmi : (s.size : Int) % 64 = 0 := by omega
    have hmt : (s.size : Int).tmod 64 = 0 := by rw [Int.tmod_eq_emod_of_nonneg (by omega)]; exact hmi
    have hdv : (s.size : Int).tdiv 64 = ((s.size / 64 : Nat) : Int) := by rw [Int.tdiv_eq_ediv_of_nonneg (by omega)]; omega
    have hdm : (s.size : Int) / 64 = ((s.size / 64 : Nat) : Int) := by omega
    have hwc : M.wcode n lost at' s = M.refused n lost at' ((s.size / 64 : Nat) : Int) := by unfold M.wcode; simp [hm]
    obtain ⟨m, hmm⟩ : ∃ m, s.size / 64 = m := ⟨_, rfl⟩
    rw [hmm] at hdv hdm hwc
    rw [hwc] at hz ⊢
    have href := refused_any b n v1 v2 lost at' (m : Int) w h hn (by omega)
    have hz' : (M.refused n lost at' (m : Int) == 0) = false := by simpa using hz
    generalize M.refused n lost at' (m : Int) = r at *
    clear h hwc
    go_enter Try.func13, Try.ntmps13
    go_wp2_with fail
    refine href.mono ?_
    rintro e w1 ⟨rfl, rfl⟩
    clear href
    go_wp2
    go_ret
    exact ⟨rfl, rfl⟩
  · have hmt : (s.size : Int).tmod 64 ≠ 0 := by rw [Int.tmod_eq_emod_of_nonneg (by omega)]; omega
    have hmt' : ((s.size : Int).tmod 64 == 0) = false := by simpa using hmt
    have hme : ((s.size : Int) % 64 == 0) = false := by simp; omega
    have hw : M.wcode n lost at' s = 1 := by unfold M.wcode; simp [hm]
    rw [hw]
    clear h
    go_enter Try.func13, Try.ntmps13
    go_wp2
    go_ret
    exact ⟨rfl, rfl⟩
theorem ref_lost (n : Nat) (at' m : Int) : M.refused n true at' m ≠ 0 := fun h => by
  obtain ⟨h', _⟩ := M.refused_ok h
  cases h'
theorem wcode_lost (n : Nat) (at' : Int) (s : ByteArray) : M.wcode n true at' s ≠ 0 := fun h => ref_lost _ _ _ (M.wcode_ok h).2
set_option maxRecDepth 100000 in
set_option maxHeartbeats 1000000 in
theorem loose_lost (base b n : Nat) (w : World) (h : LI w base b n) : Calls Try.prog 23 #[.pointer (some ⟨b, 0, none⟩)] w fun e w' => ∃ v : Value, e = .returned v ∧ w'.ownsRow w.heap.size 3 1 v 0 (IC []) ∧ Below w.heap.size w w' := by
  obtain ⟨⟨_, _, c2, _⟩, _⟩ := row4 h.row
  have hs := sorted_any w.heap.size none 0 [] (by simp) (w.alloc (.cells #[.slice none 0 0] 47)) (AtV.nil _ _) (by
    rw [cell_of_row _ _ 0 _ _ _ (heap_alloc_last w _)]; rfl)
  clear h
  go_enter Try.func23, Try.ntmps23
  go_wp2_with fail
  refine (values_any _ none 0 0 rfl w).mono ?_
  rintro e w1 ⟨rfl, rfl⟩
  go_wp2_with fail
  refine hs.mono ?_
  rintro e w' ⟨v, rfl, h1, h2⟩
  have HQ : Hid (w'.ownsRow w.heap.size 3 1 v 0 (IC []) ∧ Below w.heap.size w w') := ⟨owns_low (by simpa [IC] using h1) (by simp), bel_up (bel1 w _) h2 (Nat.le_refl _)⟩
  clear h1 h2 hs
  go_wp2
  go_ret
  exact ⟨v, rfl, HQ.out⟩
set_option maxRecDepth 100000 in
set_option maxHeartbeats 1000000 in
theorem crash_lost (base b n : Nat) (keep tear : Int) (w : World) (h : LI w base b n) : Calls Try.prog 16 #[.pointer (some ⟨b, 0, none⟩), .int .u64 keep, .int .i64 tear] w fun e w' => e = .returned (.tuple #[]) ∧ LI w' base b n ∧ Ch w (· = b) w' (· = b) := by
  have hloo := loose_lost base b n w h
  have HX := Hid_of h
  clear h
  by_cases h1 : 1 ≤ tear
  all_goals
    go_enter Try.func16, Try.ntmps16
    go_wp2_with fail
    refine hloo.mono ?_
    rintro e w2 ⟨v, rfl, ho, hb2⟩
    obtain ⟨a, cap, rfl, _⟩ := owns_at ho
    have hrow : w2.heap[b]? = _ := (hb2.block b HX.out.lt).trans HX.out.row
    obtain ⟨⟨_, _, r2, _⟩, rf⟩ := row4 hrow
    have HK : Hid (LI (w2.setCell ⟨b, 2, none⟩ (.slice none 0 0)) base b n ∧ Ch w (· = b) (w2.setCell ⟨b, 2, none⟩ (.slice none 0 0)) (· = b)) := ⟨⟨heap_setCell_same w2 b 2 _ _ _ hrow, HX.out.n1, HX.out.low⟩, (Ch.ofBelow hb2).trans (Ch.cell b 2 _ rfl)⟩
    have rf2 := rf 2
    clear hloo ho hb2 hrow rf HX
    go_wp2
    go_loopw [6, 22] (fun t i wr => (∃ T : Bool, t = .bool T) ∧ i = .int .i64 0 ∧ wr = w2) (fun _ _ _ => 0)
    case atStart => exact ⟨⟨_, rfl⟩, rfl, rfl⟩
    case round =>
      obtain ⟨⟨T, rfl⟩, rfl, rfl⟩ := hrel
      go_wp2
      go_end0
      exact ⟨rfl, HK.out⟩
/-- A sector of one byte. -/
def ofB (c : UInt8) : ByteArray := ofL (List.replicate 64 c)
theorem ofB_size (c : UInt8) : (ofB c).size = 64 := by rw [ofB, ofL_size, List.length_replicate]
def fill (c : UInt8) (k : Nat) : List UInt8 := List.replicate k c ++ List.replicate (64 - k) 0
theorem fill_step (c : UInt8) (k : Nat) (h : k < 64) : (fill c k).set k c = fill c (k + 1) := by
  unfold fill
  rw [List.set_append_right _ _ (by simp), List.length_replicate, Nat.sub_self, show 64 - k = (64 - (k + 1)) + 1 by omega, List.replicate_succ, List.set_cons_zero, show List.replicate (k + 1) c = List.replicate k c ++ [c] from List.replicate_succ', List.append_assoc]
  rfl
set_option maxRecDepth 100000 in
set_option maxHeartbeats 1000000 in
theorem of_any (c : UInt8) (w : World) : Calls Try.prog 26 #[.int .u8 (c.toNat : Int)] w fun e w' => e = .returned (.string (ofB c)) ∧ Below w.heap.size w w' := by
  obtain ⟨i0, hi, hz0, hz1, hz2⟩ := info_parts Try.info5
  go_enter Try.func26, Try.ntmps26
  go_wp2_with (at_make; refine wpList_make_full _ rfl (.const (.int .i64 64)) (.const (.int .i64 64)) 73 rfl w.heap.size 5 i0 (.int .u8 0) 1 Try.underlying73 hi hz0 hz1 .i64 .i64 64 64 64 rfl rfl rfl rfl (by rw [hz2]; omega) (by unfold maxLen; omega) (Nat.le_refl _) ?_; intro w1 ho hg; rw [made_cells] at ho; have hrow := row_of_owns (by simp) ho; clear ho)
  have hb1 : Below w.heap.size w w1 := (Below.refl _ _).grown hg (Nat.le_refl _) (by simp)
  clear hi hz0 hz1 hz2 hg
  go_loopw [4] (fun i wr => ∃ k : Nat, k ≤ 64 ∧ i = .int .i64 k ∧ Row wr w.heap.size (fill c k) ∧ Below w.heap.size w wr) (fun i _ => 64 - (intOf i).toNat)
  case atStart => exact ⟨0, by omega, rfl, by simpa [fill] using hrow, hb1⟩
  case round =>
    obtain ⟨k, hk, rfl, hr, hb⟩ := hrel
    clear hrow hb1
    by_cases hlt : k < 64
    · have hl : (fill c k).length = 64 := by simp [fill]; omega
      have hc : ∃ v, wr.cell? ⟨w.heap.size, k, none⟩ = some v := ⟨_, hr.cell k (by omega)⟩
      obtain ⟨v, hv⟩ := hc
      have hf := hr.free k
      have hr2 := hr.set k c
      rw [fill_step c k hlt] at hr2
      have HR := Hid_of (And.intro hr2 (hb.setCell (p := ⟨w.heap.size, k, none⟩) (Nat.le_refl _) (.int .u8 (c.toNat : Int))))
      clear hr hb hr2 hl
      go_wp2
      go_roundw
      case rel => exact ⟨k + 1, by omega, by go_num, HR.out⟩
      case measure => simp [intOf]; omega
    · obtain rfl : k = 64 := by omega
      have hcv := hr.convert 64 64 (by simp [fill])
      rw [show fill c 64 = List.replicate 64 c by simp [fill]] at hcv
      have HB := Hid_of hb
      clear hr hb
      go_wp2
      go_ret
      exact ⟨rfl, HB.out⟩
set_option maxRecDepth 100000 in
set_option maxHeartbeats 1000000 in
theorem ints_any (a : Option Addr) (ca : Nat) (b : Option Addr) (cb : Nat) (l : List Int) (w : World) (hl : l.length ≤ 1000000) (ha : AtV w a (IC l)) (hb : AtV w b (IC l)) :
    Calls Try.prog 22 #[.slice a l.length ca, .slice b l.length cb] w fun e w' => e = .returned (.bool true) ∧ Below w.heap.size w w' := by
  go_enter Try.func22, Try.ntmps22
  go_wp2
  go_loopw [5] (fun i wr => ∃ k : Nat, k ≤ l.length ∧ i = .int .i64 k ∧ Below w.heap.size w wr) (fun i _ => l.length - (intOf i).toNat)
  case atStart => exact ⟨0, by omega, rfl, Below.refl _ _⟩
  case round =>
    obtain ⟨k, hk, rfl, hbel⟩ := hrel
    by_cases hlt : k < l.length
    · obtain ⟨b1, o1, rfl, c1⟩ := (ha.keep hbel).int k hlt
      obtain ⟨b2, o2, rfl, c2⟩ := (hb.keep hbel).int k hlt
      generalize l[k] = x at *
      have HB : Hid (∀ n, Below w.heap.size w (wr.drewN n)) := fun n => below_drewN hbel n
      clear ha hb hbel
      go_wp2_with fail
      go_quiet (fail)
      go_wp2
      go_roundw
      case rel => exact ⟨k + 1, by omega, by go_num, HB.out _⟩
      case measure => simp [intOf]; omega
    · have hkn : k = l.length := by omega
      subst hkn
      go_wp2
      go_ret
      exact ⟨rfl, hbel⟩
end Go.Proofs.Ytjbdicnenkganaa
