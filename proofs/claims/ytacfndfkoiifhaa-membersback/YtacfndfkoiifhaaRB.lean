/-
  Where a number stands; are numbers apart.
-/
import Derived.Test.YtacfndfkoiifhaaRA
namespace Go.Proofs.Ytacfndfkoiifhaa
open Go.RowKit
set_option linter.unusedVariables false
open Mb (S)

theorem not_take {l : List Int} {n : Int} {k : Nat} (hk : k < l.length) (h : ¬ n ∈ l.take k) (h2 : ¬ l[k] = n) : ¬ n ∈ l.take (k + 1) := by
  rw [List.take_succ_eq_append_getElem hk]
  simp only [List.mem_append, List.mem_singleton]
  rintro (e | e)
  · exact h e
  · exact h2 e.symm
set_option maxHeartbeats 400000 in
theorem index_any (a : Option Addr) (cap : Nat) (l : List Int) (n : Int) (w : World) (hl : l.length ≤ 1000000) (h : AtL il w a l) :
    Calls Try.prog 42 #[.slice a l.length cap, .int .i64 n] w fun e w' => e = .returned (.int .i64 (Mb.pl l n)) ∧ w' = w := by
  go_enter Try.func42, Try.ntmps42
  go_wp2
  go_loop [8] (fun i => ∃ k : Nat, k ≤ l.length ∧ i = .int .i64 k ∧ Hid (¬ n ∈ l.take k)) (fun i => l.length - (intOf i).toNat)
  case atStart => exact ⟨0, by omega, rfl, Hid_of (by simp)⟩
  case round =>
    obtain ⟨k, hk, rfl, hn⟩ := hrel
    by_cases hlt : k < l.length
    · obtain ⟨b, off, rfl, c0⟩ := h.getI k hlt
      have hki : (k : Int) < (l.length : Int) := by omega
      have hk2 : (k : Int) ≤ 9223372036854775806 := by omega
      by_cases e : l[k] = n
      · have e1 : (n == l[k]) = true := by rw [e]; exact beq_self_eq_true n
        have HP : Hid (Mb.pl l n = k) := Hid_of (by rw [← e]; exact Mb.pl_at hlt (by rw [e]; exact hn.out))
        clear h e
        generalize l[k] = x at *
        go_wp2
        go_ret
        exact ⟨by rw [HP.out]; rfl, rfl⟩
      · have e1 : (n == l[k]) = false := beq_false_of_ne (fun e' => e e'.symm)
        have HN := Hid_of (not_take hlt hn.out e)
        clear h e hn
        generalize l[k] = x at *
        go_wp2
        go_round
        case rel => exact ⟨k + 1, by omega, by go_num, HN⟩
        case measure => simp [intOf]; omega
    · have hkn : k = l.length := by omega
      subst hkn
      have HP : Hid (Mb.pl l n = -1) := Hid_of (Mb.pl_no (by have := hn.out; rwa [List.take_length] at this))
      clear h hn
      go_wp2
      go_ret
      exact ⟨by rw [HP.out]; rfl, rfl⟩
set_option maxHeartbeats 400000 in
theorem refAt_any (a : Option Addr) (cap : Nat) (l : List Int) (n : Int) (w : World) (hl : l.length ≤ 1000000) (h : AtL il w a l) :
    Calls Try.prog 27 #[.slice a l.length cap, .int .i64 n] w fun e w' => e = .returned (.int .i64 (Mb.pl l n)) ∧ w' = w := by
  go_enter Try.func27, Try.ntmps27
  go_wp2
  go_loop [5] (fun i => ∃ k : Nat, k ≤ l.length ∧ i = .int .i64 k ∧ Hid (¬ n ∈ l.take k)) (fun i => l.length - (intOf i).toNat)
  case atStart => exact ⟨0, by omega, rfl, Hid_of (by simp)⟩
  case round =>
    obtain ⟨k, hk, rfl, hn⟩ := hrel
    by_cases hlt : k < l.length
    · obtain ⟨b, off, rfl, c0⟩ := h.getI k hlt
      have hki : (k : Int) < (l.length : Int) := by omega
      have hk2 : (k : Int) ≤ 9223372036854775806 := by omega
      by_cases e : l[k] = n
      · have e1 : (l[k] == n) = true := by rw [e]; exact beq_self_eq_true n
        have HP : Hid (Mb.pl l n = k) := Hid_of (by rw [← e]; exact Mb.pl_at hlt (by rw [e]; exact hn.out))
        clear h e
        generalize l[k] = x at *
        go_wp2
        go_ret
        exact ⟨by rw [HP.out]; rfl, rfl⟩
      · have e1 : (l[k] == n) = false := beq_false_of_ne e
        have HN := Hid_of (not_take hlt hn.out e)
        clear h e hn
        generalize l[k] = x at *
        go_wp2
        go_round
        case rel => exact ⟨k + 1, by omega, by go_num, HN⟩
        case measure => simp [intOf]; omega
    · have hkn : k = l.length := by omega
      subst hkn
      have HP : Hid (Mb.pl l n = -1) := Hid_of (Mb.pl_no (by have := hn.out; rwa [List.take_length] at this))
      clear h hn
      go_wp2
      go_ret
      exact ⟨by rw [HP.out]; rfl, rfl⟩
/-- A row of slices of ints. -/
def slv (x : Sl) : Value := .slice x.a x.l.length x.cap
def sl : Ly Sl := ⟨1, fun x => [slv x], fun _ => rfl, fun x v h => by simp at h; subst h; rfl, by decide⟩
theorem AtL.getS {w : World} {a : Option Addr} {l : List Sl} (h : AtL sl w a l) (j : Nat) (hj : j < l.length) : ∃ b off, a = some ⟨b, off, none⟩ ∧ w.cell? ⟨b, off + j, none⟩ = some (.slice (l[j]'hj).a (l[j]'hj).l.length (l[j]'hj).cap) := by
  obtain ⟨b, off, e, h0⟩ := h j hj
  have := h0 0 (by decide)
  rw [show off + j * sl.n + 0 = off + j by simp [sl]] at this
  exact ⟨b, off, e, this⟩
/-- The array of what was seen. -/
def snv (q : List Int) : Array Value := ((Mb.sn q).map Value.bool).toArray
theorem snv_size (q : List Int) : (snv q).size = 64 := by simp [snv, Mb.sn_len]
theorem snv_zero : (snv [] : Array Value) = #[.bool false, .bool false, .bool false, .bool false, .bool false, .bool false, .bool false, .bool false, .bool false, .bool false, .bool false, .bool false, .bool false, .bool false, .bool false, .bool false, .bool false, .bool false, .bool false, .bool false, .bool false, .bool false, .bool false, .bool false, .bool false, .bool false, .bool false, .bool false, .bool false, .bool false, .bool false, .bool false, .bool false, .bool false, .bool false, .bool false, .bool false, .bool false, .bool false, .bool false, .bool false, .bool false, .bool false, .bool false, .bool false, .bool false, .bool false, .bool false, .bool false, .bool false, .bool false, .bool false, .bool false, .bool false, .bool false, .bool false, .bool false, .bool false, .bool false, .bool false, .bool false, .bool false, .bool false, .bool false] := by unfold snv; rw [Mb.sn_nil]; rfl
theorem snv_cell {w : World} {X : Nat} {q : List Int} (h : w.heap[X]? = some (.cells (snv q) 86 (0, 0))) (i : Nat) (hi : i < 64) : w.cell? ⟨X, i, none⟩ = some (.bool (decide ((i : Int) ∈ q))) := by
  rw [cell_of_row w X i _ _ _ h]
  have hl : i < (Mb.sn q).length := by rw [Mb.sn_len]; exact hi
  simp only [snv, List.getElem?_toArray, List.getElem?_map, List.getElem?_eq_getElem hl, Option.map_some]
  rw [Mb.sn_get q i hi]
theorem snv_set {w : World} {X : Nat} {q : List Int} (h : w.heap[X]? = some (.cells (snv q) 86 (0, 0))) (i : Nat) : (w.setCell ⟨X, i, none⟩ (.bool true)).heap[X]? = some (.cells (snv (q ++ [(i : Int)])) 86 (0, 0)) := by
  rw [heap_setCell_same w X i _ _ _ h, snv, snv, ← Mb.sn_set q i]
  simp
theorem split_at {xl rs q : List Int} {j : Nat} (h : j < xl.length) : q ++ (xl ++ rs) = (q ++ xl.take j) ++ xl[j] :: (xl.drop (j + 1) ++ rs) := by
  have e : xl = xl.take j ++ xl[j] :: xl.drop (j + 1) := by rw [← List.drop_eq_getElem_cons h, List.take_append_drop]
  exact (congrArg (fun z => q ++ (z ++ rs)) e).trans (by simp only [List.append_assoc, List.cons_append])
/-- What holds while numbers are looked at. -/
structure SN (w wr : World) (q : List Int) : Prop where
  row : wr.heap[w.heap.size]? = some (.cells (snv q) 86 (0, 0))
  ap : Mb.Ap q
  bel : Below w.heap.size w wr
theorem SN.keep {w wr w' : World} {q : List Int} (h : SN w wr q) (hb : Below wr.heap.size wr w') : SN w w' q := ⟨bel_row h.row hb, h.ap, bel_up h.bel hb (Nat.le_refl _)⟩
theorem SN.set {w wr : World} {q : List Int} (h : SN w wr q) {i : Nat} (hi : i < 64) (hn : ¬ (i : Int) ∈ q) : SN w (wr.setCell ⟨w.heap.size, i, none⟩ (.bool true)) (q ++ [(i : Int)]) :=
  ⟨snv_set h.row i, Mb.ap_snoc.2 ⟨h.ap, by omega, hn⟩, h.bel.setCell (Nat.le_refl _) _⟩
set_option maxRecDepth 100000 in
set_option maxHeartbeats 1000000 in
theorem apart_any (a : Option Addr) (cap : Nat) (xs : List Sl) (w : World) (hn : xs.length ≤ 10) (hx : AtL sl w a xs) (hl : ∀ x ∈ xs, x.l.length ≤ 1000000 ∧ AtL il w x.a x.l) :
    Calls Try.prog 28 #[.slice a xs.length cap] w fun e w' => e = .returned (.bool (Mb.apB (Mb.cat xs))) ∧ Below w.heap.size w w' := by
  obtain ⟨W1, HW1⟩ : ∃ W1, Hid (w.alloc (.cells #[.bool false, .bool false, .bool false, .bool false, .bool false, .bool false, .bool false, .bool false, .bool false, .bool false, .bool false, .bool false, .bool false, .bool false, .bool false, .bool false, .bool false, .bool false, .bool false, .bool false, .bool false, .bool false, .bool false, .bool false, .bool false, .bool false, .bool false, .bool false, .bool false, .bool false, .bool false, .bool false, .bool false, .bool false, .bool false, .bool false, .bool false, .bool false, .bool false, .bool false, .bool false, .bool false, .bool false, .bool false, .bool false, .bool false, .bool false, .bool false, .bool false, .bool false, .bool false, .bool false, .bool false, .bool false, .bool false, .bool false, .bool false, .bool false, .bool false, .bool false, .bool false, .bool false, .bool false, .bool false] 86) = W1) := ⟨_, rfl⟩
  have H0 : Hid (SN w W1 (Mb.cat (xs.take 0))) := by
    refine ⟨?_, show Mb.Ap [] from ⟨by simp, List.nodup_nil⟩, ?_⟩
    · rw [show snv (Mb.cat (xs.take 0)) = _ from snv_zero, ← HW1.out]; exact heap_alloc_last w _
    · rw [← HW1.out]; exact bel1 w _
  have HX := Hid_of hx
  have HL := Hid_of hl
  clear hx hl
  go_enter Try.func28, Try.ntmps28
  go_upto_region 2 with fail
  rw [HW1.out]
  clear HW1
  go_wp2
  go_loopw [10] (fun i wr => ∃ k : Nat, k ≤ xs.length ∧ i = .int .i64 k ∧ Hid (SN w wr (Mb.cat (xs.take k)))) (fun i _ => xs.length - (intOf i).toNat)
  case atStart => exact ⟨0, by omega, rfl, H0⟩
  case round =>
    obtain ⟨k, hk, rfl, H1⟩ := hrel
    clear H0
    by_cases hlt : k < xs.length
    · obtain ⟨b, off, rfl, c0⟩ := (HX.out.keep (H1.out.bel)).getS k hlt
      have hki : (k : Int) < (xs.length : Int) := by omega
      have HC : Hid (Mb.cat xs = Mb.cat (xs.take k) ++ (xs[k].l ++ Mb.cat (xs.drop (k + 1)))) := Hid_of (Mb.cat_split hlt)
      have HT : Hid (Mb.cat (xs.take (k + 1)) = Mb.cat (xs.take k) ++ xs[k].l) := Hid_of (Mb.cat_take hlt)
      have HI : Hid (xs[k].l.length ≤ 1000000 ∧ AtL il w xs[k].a xs[k].l) := Hid_of (HL.out _ (List.getElem_mem hlt))
      obtain ⟨⟨xa, xc, xl⟩, hxk⟩ : ∃ x : Sl, x = xs[k] := ⟨_, rfl⟩
      rw [← hxk] at c0 HC HT HI
      simp only at c0 HC HT HI
      clear hxk
      generalize Mb.cat (xs.drop (k + 1)) = rs at *
      generalize hq : Mb.cat (xs.take k) = q at *
      clear hq
      have hxl := HI.out.1
      obtain ⟨wo, hwo⟩ : ∃ wo : World, wo = wr := ⟨_, rfl⟩
      subst hwo
      go_wp2
      go_loopw [16] (fun i wr => ∃ j : Nat, j ≤ xl.length ∧ i = .int .i64 j ∧ Hid (SN w wr (q ++ xl.take j))) (fun i _ => xl.length - (intOf i).toNat)
      case atStart => exact ⟨0, by omega, rfl, Hid_of (by simpa using H1.out)⟩
      case round =>
        obtain ⟨j, hj, rfl, H2⟩ := hrel
        clear H1 c0
        by_cases hltj : j < xl.length
        · obtain ⟨b2, off2, rfl, d0⟩ := (HI.out.2.keep H2.out.bel).getI j hltj
          have hji : (j : Int) < (xl.length : Int) := by omega
          have HD : Hid (Mb.cat xs = (q ++ xl.take j) ++ xl[j] :: (xl.drop (j + 1) ++ rs)) := Hid_of (by rw [HC.out]; exact split_at hltj)
          have HU : Hid (q ++ xl.take (j + 1) = (q ++ xl.take j) ++ [xl[j]]) := Hid_of (by rw [List.take_succ_eq_append_getElem hltj, List.append_assoc])
          have hid := isId_any xl[j] wr
          have HB := Hid_of H2.out.bel
          generalize xl[j] = x at *
          generalize hq2 : q ++ xl.take j = q2 at *
          clear hq2
          by_cases hr : 0 ≤ x ∧ x ≤ 63
          · rw [decide_eq_true hr] at hid
            obtain ⟨i, rfl⟩ := Int.eq_ofNat_of_zero_le hr.1
            have hi : i < 64 := by omega
            have hii : (i : Int) < 64 := by omega
            have cc := snv_cell H2.out.row i hi
            have cf := frozen_of_row wr w.heap.size i _ _ H2.out.row
            by_cases hm : (i : Int) ∈ q2
            · rw [decide_eq_true hm] at cc
              have HF : Hid (Mb.apB (Mb.cat xs) = false) := Hid_of (by rw [HD.out]; exact Mb.apB_bad fun h => h.2 hm)
              clear HD HU HC HT HI H2 HX HL hm
              go_wp2_with fail
              refine hid.mono ?_
              rintro e w2 ⟨rfl, rfl⟩
              clear hid
              go_wp2
              go_ret
              exact ⟨by rw [HF.out]; rfl, HB.out⟩
            · rw [decide_eq_false hm] at cc
              have HN := Hid_of (H2.out.set hi hm)
              clear HD HC HT HI H2 HX HL hm HB
              go_wp2_with fail
              refine hid.mono ?_
              rintro e w2 ⟨rfl, rfl⟩
              clear hid
              go_wp2
              go_roundw
              case rel => exact ⟨j + 1, by omega, by go_num, by rw [HU.out]; exact HN⟩
              case measure => simp [intOf]; omega
          · rw [decide_eq_false hr] at hid
            have HF : Hid (Mb.apB (Mb.cat xs) = false) := Hid_of (by rw [HD.out]; exact Mb.apB_bad fun h => hr h.1)
            clear HD HU HC HT HI H2 HX HL hr
            go_wp2_with fail
            refine hid.mono ?_
            rintro e w2 ⟨rfl, rfl⟩
            clear hid
            go_wp2
            go_ret
            exact ⟨by rw [HF.out]; rfl, HB.out⟩
        · have hjn : j = xl.length := by omega
          subst hjn
          have HN : Hid (SN w wr (Mb.cat (xs.take (k + 1)))) := by rw [HT.out]; have := H2.out; rwa [List.take_length] at this
          clear HC HT HI H2 HX HL
          go_wp2
          go_roundw
          case rel => exact ⟨k + 1, by omega, by go_num, HN⟩
          case measure => simp [intOf]; omega
    · have hkn : k = xs.length := by omega
      subst hkn
      have HF : Hid (Mb.apB (Mb.cat xs) = true ∧ Below w.heap.size w wr) := Hid_of ⟨Mb.apB_eq.2 (by have := H1.out.ap; rwa [List.take_length] at this), H1.out.bel⟩
      clear H1 HX HL
      go_wp2
      go_ret
      exact ⟨by rw [HF.out.1]; rfl, HF.out.2⟩
end Go.Proofs.Ytacfndfkoiifhaa
