/-
  Where a number stands; are numbers apart.
-/
import Derived.Test.YtgcfpihfoekllaaRA
namespace Go.Proofs.Ytgcfpihfoekllaa
open Go.RowKit
set_option linter.unusedVariables false

theorem not_take {l : List Int} {n : Int} {k : Nat} (hk : k < l.length) (h : ¬ n ∈ l.take k) (h2 : ¬ l[k] = n) : ¬ n ∈ l.take (k + 1) := by
  rw [List.take_succ_eq_append_getElem hk]
  simp only [List.mem_append, List.mem_singleton]
  rintro (e | e)
  · exact h e
  · exact h2 e.symm
set_option maxHeartbeats 400000 in
theorem index_any (a : Option Addr) (cap : Nat) (l : List Int) (n : Int) (w : World) (hl : l.length ≤ 1000000) (h : AtL il w a l) :
    Calls Try.prog 66 #[.slice a l.length cap, .int .i64 n] w fun e w' => e = .returned (.int .i64 (Mb.pl l n)) ∧ w' = w := by
  go_enter Try.func66, Try.ntmps66
  go_wp2
  go_loop [8] (fun i => ∃ k : Nat, k ≤ l.length ∧ i = .int .i64 k ∧ Hid (¬ n ∈ l.take k)) (fun i => l.length - (intOf i).toNat)
  case atStart => exact ⟨0, by omega, rfl, Hid_of (by simp)⟩
  case round =>
    obtain ⟨k, hk, rfl, hn⟩ := hrel
    by_cases hlt : k < l.length
    · obtain ⟨b, off, rfl, c0⟩ := h.getI k hlt
      have hki : (k : Int) < (l.length : Int) := by omega
      have hk2 : (k : Int) ≤ 9223372036854775806 := by omega
      by_cases e : l[k] = n
      · have e1 : (n == l[k]) = true := by rw [e]; exact beq_self_eq_true n
        have HP : Hid (Mb.pl l n = k) := Hid_of (by rw [← e]; exact Mb.pl_at hlt (by rw [e]; exact hn.out))
        clear h e
        generalize l[k] = x at *
        go_wp2
        go_ret
        exact ⟨by rw [HP.out]; rfl, rfl⟩
      · have e1 : (n == l[k]) = false := beq_false_of_ne (fun e' => e e'.symm)
        have HN := Hid_of (not_take hlt hn.out e)
        clear h e hn
        generalize l[k] = x at *
        go_wp2
        go_round
        case rel => exact ⟨k + 1, by omega, by go_num, HN⟩
        case measure => simp [intOf]; omega
    · have hkn : k = l.length := by omega
      subst hkn
      have HP : Hid (Mb.pl l n = -1) := Hid_of (Mb.pl_no (by have := hn.out; rwa [List.take_length] at this))
      clear h hn
      go_wp2
      go_ret
      exact ⟨by rw [HP.out]; rfl, rfl⟩
set_option maxHeartbeats 400000 in
theorem refAt_any (a : Option Addr) (cap : Nat) (l : List Int) (n : Int) (w : World) (hl : l.length ≤ 1000000) (h : AtL il w a l) :
    Calls Try.prog 42 #[.slice a l.length cap, .int .i64 n] w fun e w' => e = .returned (.int .i64 (Mb.pl l n)) ∧ w' = w := by
  go_enter Try.func42, Try.ntmps42
  go_wp2
  go_loop [5] (fun i => ∃ k : Nat, k ≤ l.length ∧ i = .int .i64 k ∧ Hid (¬ n ∈ l.take k)) (fun i => l.length - (intOf i).toNat)
  case atStart => exact ⟨0, by omega, rfl, Hid_of (by simp)⟩
  case round =>
    obtain ⟨k, hk, rfl, hn⟩ := hrel
    by_cases hlt : k < l.length
    · obtain ⟨b, off, rfl, c0⟩ := h.getI k hlt
      have hki : (k : Int) < (l.length : Int) := by omega
      have hk2 : (k : Int) ≤ 9223372036854775806 := by omega
      by_cases e : l[k] = n
      · have e1 : (l[k] == n) = true := by rw [e]; exact beq_self_eq_true n
        have HP : Hid (Mb.pl l n = k) := Hid_of (by rw [← e]; exact Mb.pl_at hlt (by rw [e]; exact hn.out))
        clear h e
        generalize l[k] = x at *
        go_wp2
        go_ret
        exact ⟨by rw [HP.out]; rfl, rfl⟩
      · have e1 : (l[k] == n) = false := beq_false_of_ne e
        have HN := Hid_of (not_take hlt hn.out e)
        clear h e hn
        generalize l[k] = x at *
        go_wp2
        go_round
        case rel => exact ⟨k + 1, by omega, by go_num, HN⟩
        case measure => simp [intOf]; omega
    · have hkn : k = l.length := by omega
      subst hkn
      have HP : Hid (Mb.pl l n = -1) := Hid_of (Mb.pl_no (by have := hn.out; rwa [List.take_length] at this))
      clear h hn
      go_wp2
      go_ret
      exact ⟨by rw [HP.out]; rfl, rfl⟩
/-- A row of slices of ints. -/
def slv (x : Sl) : Value := .slice x.a x.l.length x.cap
def sl : Ly Sl := ⟨1, fun x => [slv x], fun _ => rfl, fun x v h => by simp at h; subst h; rfl, by decide⟩
theorem AtL.getS {w : World} {a : Option Addr} {l : List Sl} (h : AtL sl w a l) (j : Nat) (hj : j < l.length) : ∃ b off, a = some ⟨b, off, none⟩ ∧ w.cell? ⟨b, off + j, none⟩ = some (.slice (l[j]'hj).a (l[j]'hj).l.length (l[j]'hj).cap) := by
  obtain ⟨b, off, e, h0⟩ := h j hj
  have := h0 0 (by decide)
  rw [show off + j * sl.n + 0 = off + j by simp [sl]] at this
  exact ⟨b, off, e, this⟩
/-- The array of what was seen. -/
def snv (q : List Int) : Array Value := ((Mb.sn q).map Value.bool).toArray
theorem snv_size (q : List Int) : (snv q).size = 64 := by simp [snv, Mb.sn_len]
theorem snv_zero : (snv [] : Array Value) = #[.bool false, .bool false, .bool false, .bool false, .bool false, .bool false, .bool false, .bool false, .bool false, .bool false, .bool false, .bool false, .bool false, .bool false, .bool false, .bool false, .bool false, .bool false, .bool false, .bool false, .bool false, .bool false, .bool false, .bool false, .bool false, .bool false, .bool false, .bool false, .bool false, .bool false, .bool false, .bool false, .bool false, .bool false, .bool false, .bool false, .bool false, .bool false, .bool false, .bool false, .bool false, .bool false, .bool false, .bool false, .bool false, .bool false, .bool false, .bool false, .bool false, .bool false, .bool false, .bool false, .bool false, .bool false, .bool false, .bool false, .bool false, .bool false, .bool false, .bool false, .bool false, .bool false, .bool false, .bool false] := by unfold snv; rw [Mb.sn_nil]; rfl
theorem snv_cell {w : World} {X : Nat} {q : List Int} (h : w.heap[X]? = some (.cells (snv q) 130 (0, 0))) (i : Nat) (hi : i < 64) : w.cell? ⟨X, i, none⟩ = some (.bool (decide ((i : Int) ∈ q))) := by
  rw [cell_of_row w X i _ _ _ h]
  have hl : i < (Mb.sn q).length := by rw [Mb.sn_len]; exact hi
  simp only [snv, List.getElem?_toArray, List.getElem?_map, List.getElem?_eq_getElem hl, Option.map_some]
  rw [Mb.sn_get q i hi]
theorem snv_set {w : World} {X : Nat} {q : List Int} (h : w.heap[X]? = some (.cells (snv q) 130 (0, 0))) (i : Nat) : (w.setCell ⟨X, i, none⟩ (.bool true)).heap[X]? = some (.cells (snv (q ++ [(i : Int)])) 130 (0, 0)) := by
  rw [heap_setCell_same w X i _ _ _ h, snv, snv, ← Mb.sn_set q i]
  simp
theorem split_at {xl rs q : List Int} {j : Nat} (h : j < xl.length) : q ++ (xl ++ rs) = (q ++ xl.take j) ++ xl[j] :: (xl.drop (j + 1) ++ rs) := by
  have e : xl = xl.take j ++ xl[j] :: xl.drop (j + 1) := by rw [← List.drop_eq_getElem_cons h, List.take_append_drop]
  exact (congrArg (fun z => q ++ (z ++ rs)) e).trans (by simp only [List.append_assoc, List.cons_append])
/-- What holds while numbers are looked at. -/
structure SN (w wr : World) (q : List Int) : Prop where
  row : wr.heap[w.heap.size]? = some (.cells (snv q) 130 (0, 0))
  ap : Mb.Ap q
  bel : Below w.heap.size w wr
theorem SN.keep {w wr w' : World} {q : List Int} (h : SN w wr q) (hb : Below wr.heap.size wr w') : SN w w' q := ⟨bel_row h.row hb, h.ap, bel_up h.bel hb (Nat.le_refl _)⟩
theorem SN.set {w wr : World} {q : List Int} (h : SN w wr q) {i : Nat} (hi : i < 64) (hn : ¬ (i : Int) ∈ q) : SN w (wr.setCell ⟨w.heap.size, i, none⟩ (.bool true)) (q ++ [(i : Int)]) :=
  ⟨snv_set h.row i, Mb.ap_snoc.2 ⟨h.ap, by omega, hn⟩, h.bel.setCell (Nat.le_refl _) _⟩
end Go.Proofs.Ytgcfpihfoekllaa
