/-
  The ballots of votes, in new memory.
-/
import Derived.Test.YtfjlanhekheecaaPD
namespace Go.Proofs.Ytfjlanhekheecaa.Np
open Go.RowKit
set_option linter.unusedVariables false
open Go.Proofs.Ytfjlanhekheecaa.M (E V)

theorem hi30 : Try.prog.info? 30 = some Try.t30 := by kernel_rfl
/-- The row of ballots, so many of them laid. -/
def lst (l : List V) (k : Nat) : List E := (l.map V.b).take k ++ List.replicate (l.length - k) ⟨0, 0⟩
theorem lst_len (l : List V) (k : Nat) (h : k ≤ l.length) : (lst l k).length = l.length := by
  unfold lst
  rw [List.length_append, List.length_take, List.length_map, List.length_replicate, Nat.min_eq_left h]
  omega
theorem lst_all (l : List V) : lst l l.length = l.map V.b := by
  unfold lst
  rw [Nat.sub_self, List.replicate_zero, List.append_nil, List.take_of_length_le (by simp)]
theorem lst_set (l : List V) (k : Nat) (h : k < l.length) : (lst l k).set k l[k].b = lst l (k + 1) := by
  unfold lst
  obtain ⟨m, hm⟩ : ∃ m, l.length - k = m + 1 := ⟨l.length - k - 1, by omega⟩
  have hA : ((l.map V.b).take k).length = k := by rw [List.length_take, List.length_map]; omega
  rw [hm, show l.length - (k + 1) = m by omega, List.replicate_succ, List.set_append_right _ _ (by omega), hA, Nat.sub_self, List.set_cons_zero]
  rw [List.take_add_one, List.getElem?_map, List.getElem?_eq_getElem h, List.append_assoc]
  rfl
theorem lst_get (l : List V) (k : Nat) (h : k < l.length) : (lst l k)[k]'(by rw [lst_len l k (by omega)]; exact h) = ⟨0, 0⟩ := by
  unfold lst
  rw [List.getElem_append_right (by simp; omega)]
  simp
theorem rep_cells : ∀ n, bl.cells (List.replicate n ⟨0, 0⟩) = (List.range (n * 2)).map (fun i => (#[Value.int .i64 0, Value.int .i64 0])[i % 2]!)
  | 0 => rfl
  | n + 1 => by
    rw [List.replicate_succ', Ly.app, rep_cells n, show (n + 1) * 2 = n * 2 + 1 + 1 by omega, List.range_succ, List.range_succ, List.map_append, List.map_append, List.append_assoc]
    have e1 : n * 2 % 2 = 0 := by omega
    have e2 : (n * 2 + 1) % 2 = 1 := by omega
    simp only [List.map_cons, List.map_nil, e1, e2]
    rfl
theorem made (n : Nat) : madeCells (Value.agg #[.int .i64 0, .int .i64 0]).cells (n * 2) = (bl.cells (List.replicate n ⟨0, 0⟩)).toArray := by
  rw [rep_cells]
  apply Array.ext'
  unfold madeCells
  rw [Array.toList_map, Array.toList_range]
  rfl
/-- What ballots of votes leave. -/
def BOut (w : World) (l : List V) (e : Ending) (w' : World) : Prop := ∃ a, e = .returned (.slice a l.length l.length) ∧ AtL bl w' a (l.map V.b) ∧ Below w.heap.size w w'
theorem at_row {w : World} {g : Nat} {l : List E} (h : w.heap[g]? = some (.cells (bl.cells l).toArray 30 (0, 0))) : AtL bl w (some ⟨g, 0, none⟩) l := by
  intro j hj
  refine ⟨g, 0, rfl, fun q hq => ?_⟩
  rw [cell_of_row w g _ _ _ _ h, List.getElem?_toArray, Nat.zero_add]
  exact bl.get l j hj q hq
theorem set_row {w : World} {g : Nat} {l : List E} (k : Nat) (hk : k < l.length) (x : E) (h : w.heap[g]? = some (.cells (bl.cells l).toArray 30 (0, 0))) :
    (w.cell? ⟨g, k * 2, none⟩ = some (.int .i64 l[k].i) ∧ w.cell? ⟨g, k * 2 + 1, none⟩ = some (.int .i64 l[k].t) ∧ w.frozen? ⟨g, k * 2, none⟩ = false ∧ w.frozen? ⟨g, k * 2 + 1, none⟩ = false) ∧ ((w.setCell ⟨g, k * 2, none⟩ (.int .i64 x.i)).setCell ⟨g, k * 2 + 1, none⟩ (.int .i64 x.t)).heap[g]? = some (.cells (bl.cells (l.set k x)).toArray 30 (0, 0)) := by
  obtain ⟨b, off, e, c0, c1⟩ := (at_row h).getB k hk
  cases e
  rw [Nat.zero_add] at c0 c1
  refine ⟨⟨c0, c1, frozen_of_row w g _ _ _ h, frozen_of_row w g _ _ _ h⟩, ?_⟩
  have h1 := heap_setCell_same w g (k * 2) _ _ (.int .i64 x.i) h
  have h2 := heap_setCell_same _ g (k * 2 + 1) _ _ (.int .i64 x.t) h1
  rw [h2]
  have e1 := bl.set1 l k hk 0 (by decide) ⟨x.i, l[k].t⟩ (.int .i64 x.i) rfl
  have e2 := bl.set1 (l.set k ⟨x.i, l[k].t⟩) k (by simpa using hk) 1 (by decide) x (.int .i64 x.t) (by simp [bl])
  rw [← e1, List.set_set] at e2
  have e3 : (((bl.cells l).toArray.setIfInBounds (k * 2) (.int .i64 x.i)).setIfInBounds (k * 2 + 1) (.int .i64 x.t)) = (bl.cells (l.set k x)).toArray := by
    rw [← e2]
    simp [bl]
  rw [e3]
set_option maxRecDepth 100000 in
set_option maxHeartbeats 400000 in
theorem ballots_any (a : Option Addr) (cap : Nat) (l : List V) (w : World) (hat : AtL vl w a l) (hl : l.length ≤ 1000000) :
    Calls Try.prog 84 #[.slice a l.length cap] w (BOut w l) := by
  have hmk : (Instr.makeSlice 89 (.int .i64 (l.length : Int)) (.int .i64 (l.length : Int))).run Try.prog w = .ok (.slice (some ⟨w.heap.size, 0, none⟩) l.length l.length) (w.alloc (.cells (bl.cells (List.replicate l.length ⟨0, 0⟩)).toArray 30)) := by
    have h := run_make (P := Try.prog) w 89 30 Try.t30 (.agg #[.int .i64 0, .int .i64 0]) Try.underlying89 hi30 rfl .i64 .i64 (l.length : Int) (l.length : Int) (by omega) (by omega) (by show (16 : Int) * _ ≤ _; omega) (by omega)
    rw [show Try.t30.size = 2 from rfl, Int.toNat_natCast, made] at h
    exact h
  have hrow := heap_alloc_last w (.cells (bl.cells (List.replicate l.length ⟨0, 0⟩)).toArray 30)
  obtain ⟨W1, HW1⟩ : ∃ W1, Hid (w.alloc (.cells (bl.cells (List.replicate l.length ⟨0, 0⟩)).toArray 30) = W1) := ⟨_, Hid_of rfl⟩
  have HB1 : Hid (Below w.heap.size w W1) := by rw [← HW1.out]; exact bel1 w _
  rw [HW1.out] at hmk hrow
  have HR1 : Hid (W1.heap[w.heap.size]? = some (.cells (bl.cells (lst l 0)).toArray 30 (0, 0))) := by
    have e : lst l 0 = List.replicate l.length ⟨0, 0⟩ := by unfold lst; simp
    rw [e]
    exact hrow
  clear hrow HW1
  go_enter Try.func84, Try.ntmps84
  go_wp2
  go_loopw [11] (fun i wr => ∃ k : Nat, k ≤ l.length ∧ i = .int .i64 k ∧ Below w.heap.size w wr ∧ Hid (wr.heap[w.heap.size]? = some (.cells (bl.cells (lst l k)).toArray 30 (0, 0)))) (fun i _ => l.length - (intOf i).toNat)
  case atStart => exact ⟨0, by omega, rfl, HB1.out, HR1⟩
  case round =>
    obtain ⟨k, hk, rfl, hb, HR⟩ := hrel
    have HB := Hid_of hb
    by_cases hlt : k < l.length
    · have hki : (k : Int) < (l.length : Int) := by omega
      have HSE := Hid_of (lst_set l k hlt)
      obtain ⟨b, off, rfl, c0, c1, c2, c3⟩ := (hat.keep hb).getV k hlt
      obtain ⟨x, HX⟩ : ∃ x, Hid (l[k] = x) := ⟨_, Hid_of rfl⟩
      rw [HX.out] at c0 c1 c2 c3 HSE
      have hr2 := heap_alloc_last wr (.cells #[.int .i64 x.s, .int .i64 x.b.i, .int .i64 x.b.t, .string x.v] 42)
      obtain ⟨W2, HW2⟩ : ∃ W2, Hid (wr.alloc (.cells #[.int .i64 x.s, .int .i64 x.b.i, .int .i64 x.b.t, .string x.v] 42) = W2) := ⟨_, Hid_of rfl⟩
      have HBW : Hid (Below wr.heap.size wr W2) := by rw [← HW2.out]; exact bel1 wr _
      have HB2 : Hid (Below w.heap.size w W2) := bel_up HB.out HBW.out (Nat.le_refl _)
      rw [HW2.out] at hr2
      obtain ⟨⟨y0, y1, y2, y3⟩, -⟩ := row4 hr2
      have hlen := lst_len l k hk
      obtain ⟨⟨z0, z1, f0, f1⟩, hz⟩ := set_row k (by omega) x.b (bel_row HR.out HBW.out)
      have HZ := Hid_of hz
      generalize (lst l k)[k].i = u0 at *
      generalize (lst l k)[k].t = u1 at *
      clear hat hb hr2 hz hlen HR hmk
      go_upto_region 5 with fail
      rw [HW2.out]
      clear HW2 c0 c1 c2 c3
      go_wp2
      go_roundw
      case rel => exact ⟨k + 1, by omega, by go_num, (HB2.out.setCell (Nat.le_refl _) _).setCell (Nat.le_refl _) _, by rw [← HSE.out]; exact HZ⟩
      case measure => simp [intOf]; omega
    · obtain rfl : k = l.length := by omega
      have HA : Hid (AtL bl wr (some ⟨w.heap.size, 0, none⟩) (l.map V.b)) := by
        have := at_row HR.out
        rw [lst_all] at this
        exact this
      clear hat hb HR hmk
      go_wp2
      go_ret
      exact ⟨_, rfl, HA.out, HB.out⟩

end Go.Proofs.Ytfjlanhekheecaa.Np
