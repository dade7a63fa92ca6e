/-
  Where a number stands.
-/
import Derived.Test.YtbgbdiiinggjnaaA
namespace Go.Proofs.Ytbgbdiiinggjnaa
open Go.RowKit
set_option linter.unusedVariables false
open M (E)

theorem eq_any (i t k : Int) (g : Nat) (w : World) (h : w.heap[g]? = some (.cells #[.int .i64 k] 3 (0, 0))) :
    Calls Try.prog 48 #[.agg #[.int .i64 i, .int .i64 t], .pointer (some ⟨g, 0, none⟩)] w fun e w' => e = .returned (.bool (i == k)) ∧ Below w.heap.size w w' := by
  have hg : g < w.heap.size := (Array.getElem?_eq_some_iff.1 h).1
  have HB : Hid (Below w.heap.size w (w.alloc (.cells #[.int .i64 i, .int .i64 t] 93))) := bel1 w _
  have c0 := (row1 ((HB.out.block g hg).trans h)).1
  clear h
  go_enter Try.func48, Try.ntmps48
  go_wp2
  go_ret
  exact ⟨rfl, HB.out⟩
set_option maxRecDepth 100000 in
set_option maxHeartbeats 1000000 in
theorem index_any (a : Option Addr) (cap : Nat) (l : List E) (k : Int) (g : Nat) (w : World) (hl : l.length ≤ 1000000) (ha : AtE w a l) (h : w.heap[g]? = some (.cells #[.int .i64 k] 3 (0, 0))) :
    Calls Try.prog 47 #[.slice a l.length cap, .func (.func 48) #[] #[.pointer (some ⟨g, 0, none⟩)]] w fun e w' => e = .returned (.int .i64 (M.plc l k)) ∧ Below w.heap.size w w' := by
  have hg : g < w.heap.size := (Array.getElem?_eq_some_iff.1 h).1
  have HF : Hid (∀ j : Nat, j ≤ l.length → (∀ i (h : i < l.length), i < j → l[i].i ≠ k) → (∀ h : j < l.length, l[j].i = k) → M.fnd l k = j) := fun j hj a b => M.fnd_eq l k j hj a b
  go_enter Try.func47, Try.ntmps47
  go_wp2
  go_loopw [8] (fun i wr => ∃ q : Nat, q ≤ l.length ∧ i = .int .i64 q ∧ Below w.heap.size w wr ∧ Hid (∀ i (h : i < l.length), i < q → l[i].i ≠ k)) (fun i _ => l.length - (intOf i).toNat)
  case atStart => exact ⟨0, by omega, rfl, Below.refl _ _, fun i h h' => by omega⟩
  case round =>
    obtain ⟨q, hq, rfl, hbel, HI⟩ := hrel
    by_cases hlt : q < l.length
    · obtain ⟨b, off, rfl, c0, c1⟩ := (ha.keep hbel) q hlt
      have hc := fun x y => eq_any x y k g wr ((hbel.block g hg).trans h)
      have HN : Hid (l[q].i ≠ k → ∀ i (h : i < l.length), i < q + 1 → l[i].i ≠ k) := fun hne i hi hiq => by
        rcases Nat.lt_or_ge i q with h' | h'
        · exact HI.out i hi h'
        · obtain rfl : i = q := by omega
          exact hne
      have HP : Hid (l[q].i = k → M.plc l k = (q : Int)) := fun he => by
        have := HF.out q (by omega) HI.out (fun _ => he)
        rw [M.plc_yes (by rw [this]; exact hlt), this]
      generalize hx : l[q].i = x at *
      generalize l[q].t = y at *
      clear ha hx
      by_cases he : x = k
      · have hd : (x == k) = true := by simpa using he
        have HP' := Hid_of (HP.out he)
        have hc' := hc x y
        rw [hd] at hc'
        clear hc hd HP HN HF he
        go_wp2_with fail
        refine hc'.mono ?_
        rintro e w1 ⟨rfl, hb⟩
        have HB := Hid_of (bel_up hbel hb (Nat.le_refl _))
        clear hb hbel
        go_wp2
        go_ret
        exact ⟨by rw [HP'.out]; rfl, HB.out⟩
      · have hd : (x == k) = false := by simpa using he
        have hc' := hc x y
        rw [hd] at hc'
        have HN' := Hid_of (HN.out he)
        clear hc hd HP HN HF he
        go_wp2_with fail
        refine hc'.mono ?_
        rintro e w1 ⟨rfl, hb⟩
        have HB := Hid_of (bel_up hbel hb (Nat.le_refl _))
        clear hb hbel
        go_wp2
        go_roundw
        case rel => exact ⟨q + 1, by omega, by go_num, HB.out, HN'⟩
        case measure => simp [intOf]; omega
    · have hqn : q = l.length := by omega
      have HP : Hid (M.plc l k = -1) := by
        have := HF.out q (by omega) HI.out (fun h => by omega)
        exact M.plc_no (by rw [this]; omega)
      clear HF HI
      go_wp2
      go_ret
      exact ⟨by rw [HP.out]; rfl, hbel⟩
set_option maxHeartbeats 1000000 in
theorem place_any (a : Option Addr) (cap : Nat) (l : List E) (k : Int) (w : World) (hl : l.length ≤ 1000000) (ha : AtE w a l) :
    Calls Try.prog 39 #[.slice a l.length cap, .int .i64 k] w fun e w' => e = .returned (.int .i64 (M.plc l k)) ∧ Below w.heap.size w w' := by
  have hc := index_any a cap l k w.heap.size (w.alloc (.cells #[.int .i64 k] 3)) hl (ha.keep (bel1 w _)) (heap_alloc_last w _)
  have HB : Hid (Below w.heap.size w (w.alloc (.cells #[.int .i64 k] 3))) := bel1 w _
  clear ha
  go_enter Try.func39, Try.ntmps39
  go_wp2_with fail
  refine hc.mono ?_
  rintro e w1 ⟨rfl, hb⟩
  have HB1 := Hid_of (bel_up HB.out hb (Nat.le_refl _))
  clear hb HB hc
  go_wp2
  go_ret
  exact ⟨rfl, HB1.out⟩
end Go.Proofs.Ytbgbdiiinggjnaa
