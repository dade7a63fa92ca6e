/-
  The document's calls, by value.
-/
import Derived.Test.YtjbcchipbdkplaaRK
import Derived.Deep.CutRange
namespace Go.Proofs.Ytjbcchipbdkplaa
open Go.RowKit Go.Maps
set_option linter.unusedVariables false
open Rp (C fup)

/-- Room and 64 rows, as they lie. -/
def DA (room : Int) (dv : Nat → Value) : Array Value := (Value.int .i64 room :: (List.range 64).map dv).toArray
@[simp] theorem DA_size (room : Int) (dv : Nat → Value) : (DA room dv).size = 65 := by simp [DA]
theorem DA_zero (room : Int) (dv : Nat → Value) : (DA room dv)[0]? = some (.int .i64 room) := by simp [DA]
theorem DA_get (room : Int) (dv : Nat → Value) (k : Nat) (h : k < 64) : (DA room dv)[1 + k]? = some (dv k) := by
  unfold DA
  rw [Nat.add_comm]
  simp [h]
@[simp] theorem DA_room (r r' : Int) (dv : Nat → Value) : (DA r dv).setIfInBounds 0 (.int .i64 r') = DA r' dv := by simp [DA]
def dvup (dv : Nat → Value) (k : Nat) (v : Value) : Nat → Value := fun j => if j = k then v else dv j
theorem DA_set (room : Int) (dv : Nat → Value) (k : Nat) (v : Value) (h : k < 64) : (DA room dv).setIfInBounds (1 + k) v = DA room (dvup dv k v) := by
  apply Array.ext_getElem?
  intro j
  rw [Array.getElem?_setIfInBounds, DA_size]
  cases j with
  | zero => rw [if_neg (by omega), DA_zero, DA_zero]
  | succ j =>
    rw [Nat.add_comm j 1]
    by_cases hj : j < 64
    · rw [DA_get _ _ j hj, DA_get _ _ j hj]
      unfold dvup
      by_cases e : j = k
      · subst e; simp; omega
      · rw [if_neg (by omega), if_neg e]
    · rw [Array.getElem?_eq_none (by simp; omega), Array.getElem?_eq_none (by simp; omega)]
      split <;> first | rfl | (split <;> first | rfl | omega)
/-- Rows that are slices. -/
def Sl (dv : Nat → Value) : Prop := ∀ k, ∃ a n c, dv k = .slice a n c
theorem DA_one (room : Int) (dv : Nat → Value) (h : Sl dv) : ∀ v ∈ (DA room dv).toList, v.oneCell' = true := by
  intro v hv
  simp [DA] at hv
  rcases hv with rfl | ⟨k, _, rfl⟩
  · rfl
  · obtain ⟨a, n, c, e⟩ := h k; rw [e]; rfl
theorem Sl.up {dv : Nat → Value} (h : Sl dv) (k : Nat) (a : Option Addr) (n c : Nat) : Sl (dvup dv k (.slice a n c)) := fun j => by
  unfold dvup
  split
  · exact ⟨a, n, c, rfl⟩
  · exact h j
def nodv : Nat → Value := fun _ => .slice none 0 0
theorem nodv_sl : Sl nodv := fun k => ⟨none, 0, 0, rfl⟩
theorem DA_zeros : (Value.agg (DA 0 nodv)) = Value.agg #[.int .i64 0, .slice none 0 0, .slice none 0 0, .slice none 0 0, .slice none 0 0, .slice none 0 0, .slice none 0 0, .slice none 0 0, .slice none 0 0, .slice none 0 0, .slice none 0 0, .slice none 0 0, .slice none 0 0, .slice none 0 0, .slice none 0 0, .slice none 0 0, .slice none 0 0, .slice none 0 0, .slice none 0 0, .slice none 0 0, .slice none 0 0, .slice none 0 0, .slice none 0 0, .slice none 0 0, .slice none 0 0, .slice none 0 0, .slice none 0 0, .slice none 0 0, .slice none 0 0, .slice none 0 0, .slice none 0 0, .slice none 0 0, .slice none 0 0, .slice none 0 0, .slice none 0 0, .slice none 0 0, .slice none 0 0, .slice none 0 0, .slice none 0 0, .slice none 0 0, .slice none 0 0, .slice none 0 0, .slice none 0 0, .slice none 0 0, .slice none 0 0, .slice none 0 0, .slice none 0 0, .slice none 0 0, .slice none 0 0, .slice none 0 0, .slice none 0 0, .slice none 0 0, .slice none 0 0, .slice none 0 0, .slice none 0 0, .slice none 0 0, .slice none 0 0, .slice none 0 0, .slice none 0 0, .slice none 0 0, .slice none 0 0, .slice none 0 0, .slice none 0 0, .slice none 0 0, .slice none 0 0] := by
  unfold DA nodv
  rfl
theorem zero30 (w : World) : (zeroValue 30).run Try.prog w = .ok (.agg (DA 0 nodv)) w := by
  rw [DA_zeros]
  exact Try.zeroValue30 w
/-- What the type of 65 cells is, under names that the walk does not open. -/
def ld30 (a : Addr) : Sem (Array Value) := loadCellsFrom a 0 65 #[]
def st30 (a : Addr) (c : Array Value) : Sem Unit := storeCells a c.toList 0
def sz30 (w : World) : Result Nat := .ok 65 w
def ti30 (P : Program) (t : TypeId) (w : World) := (typeInfo t).run P w
theorem sz30_eq (w : World) : sz30 w = .ok 65 w := rfl
@[simp] theorem sz30_of (t : TypeId) (w : World) (h : t = 30) : (sizeOf t).run Try.prog w = sz30 w := by subst h; exact Try.sizeOf30 w
@[simp] theorem ti30_of (t : TypeId) (w : World) (h : t = 30) : (typeInfo t).run Try.prog w = ti30 Try.prog 30 w := by subst h; rfl
@[simp] theorem zero30_of (t : TypeId) (w : World) (h : t = 30) : (zeroValue t).run Try.prog w = .ok (.agg (DA 0 nodv)) w := by subst h; exact zero30 w
@[simp] theorem sz_ld30 {β : Type} (w : World) (A : Addr) (F : Array Value → World → Result β) :
    ((sz30 w).andThen fun a w' => ((loadCellsFrom A 0 a #[]).run Try.prog w').andThen F) = ((ld30 A).run Try.prog w).andThen F := by
  rw [sz30_eq]
  rfl
@[simp] theorem sz_st30 {β : Type} (w : World) (A : Addr) (c : Array Value) (F : Unit → World → Result β) (X : World → Result β) :
    ((sz30 w).andThen fun a w' => if 65 = a then ((storeCells A c.toList).run Try.prog w').andThen F else X w') = ((st30 A c).run Try.prog w).andThen F := by
  rw [sz30_eq]
  rfl
@[simp] theorem sz_fld30 {β : Type} (w : World) (X Y : World → Result β) : ((sz30 w).andThen fun a w' => if a = 0 then X w' else Y w') = Y w := by
  rw [sz30_eq]
  rfl
@[simp] theorem sz_any30 {β : Type} (w : World) (G : World → Result β) : ((sz30 w).andThen fun _ w' => G w') = G w := by
  rw [sz30_eq]
  rfl
theorem load30_row (w : World) (b : Nat) (room : Int) (dv : Nat → Value) (hb : w.heap[b]? = some (.cells (DA room dv) 30 (0, 0))) : (ld30 ⟨b, 0, none⟩).run Try.prog w = .ok (DA room dv) w := by
  have := run_loadCells_list (P := Try.prog) w ⟨b, 0, none⟩ (DA room dv).toList (fun j v hv => by
    have hadd : (⟨b, 0, none⟩ : Addr).add j = ⟨b, j, none⟩ := by unfold Addr.add; split <;> simp_all
    rw [hadd, cell_of_row w b j _ _ _ hb]
    simpa using hv)
  simpa [loadCells, DA_size, ld30] using this
theorem store30_row (w : World) (b : Nat) (r r' : Int) (dv dv' : Nat → Value) (hs : Sl dv) (hb : w.heap[b]? = some (.cells (DA r' dv') 30 (0, 0))) : (st30 ⟨b, 0, none⟩ (DA r dv)).run Try.prog w = .ok () (w.setRow b (DA r dv)) := by
  have := run_storeCells_from (P := Try.prog) b 30 (DA r dv).toList 0 _ w hb (by simp [DA_size]) (DA_one r dv hs)
  simpa [st30] using this
theorem size30 (room : Int) (dv : Nat → Value) : (Try.prog.info? 30).map (·.size) = some (DA room dv).size := by rw [DA_size]; kernel_rfl
theorem res30 {fn : Func} {p : Tmp} (h : fn.results = #[.cell p 30]) (tmps : Array Value) (w : World) (g : Nat) (room : Int) (dv : Nat → Value) (hp : tmps.getD p undef = .pointer (some ⟨g, 0, none⟩)) (hg : w.heap[g]? = some (.cells (DA room dv) 30 (0, 0))) :
    (results fn tmps).run Try.prog w = .ok (.agg (DA room dv)) w :=
  results_cell_row h tmps w g 30 _ (0, 0) _ hp hg Try.underlying30 rfl (size30 room dv)
theorem may_any (c k : Int) (w : World) : Calls Try.prog 23 #[.int .i64 c, .int .i64 k] w fun e w' => e = .returned (.bool (Rp.may c k)) ∧ w' = w := by
  have e1 : decide (c < 64) = decide (c ≤ 63) := by by_cases h : c ≤ 63 <;> simp [h] <;> omega
  have e2 : decide (k < 2147483648) = decide (k ≤ 2147483647) := by by_cases h : k ≤ 2147483647 <;> simp [h] <;> omega
  unfold Rp.may Rp.mayC Rp.mayI
  cases h1 : decide ((0 : Int) ≤ c) with
  | false =>
    simp only [Bool.false_and]
    clear e1 e2
    go_enter Try.func23, Try.ntmps23
    go_wp2
    go_ret
    exact ⟨rfl, rfl⟩
  | true =>
    cases h2 : decide (c ≤ 63) with
    | false =>
      rw [h2] at e1
      simp only [Bool.true_and, Bool.false_and]
      clear e2 h2
      go_enter Try.func23, Try.ntmps23
      go_wp2
      go_ret
      exact ⟨rfl, rfl⟩
    | true =>
      rw [h2] at e1
      cases h3 : decide ((0 : Int) ≤ k) with
      | false =>
        simp only [Bool.true_and, Bool.false_and]
        clear e2 h2
        go_enter Try.func23, Try.ntmps23
        go_wp2
        go_ret
        exact ⟨rfl, rfl⟩
      | true =>
        rw [← e2]
        simp only [Bool.true_and]
        clear e2 h2
        go_enter Try.func23, Try.ntmps23
        go_wp2
        go_ret
        exact ⟨rfl, rfl⟩
set_option maxRecDepth 100000 in
set_option maxHeartbeats 1000000 in
theorem newD_any (n : Int) (w : World) : Calls Try.prog 11 #[.int .i64 n] w fun e w' => e = .returned (.agg (DA (rm n) nodv)) ∧ Below w.heap.size w w' := by
  have hrm := (rm_eq n).symm
  have hbox : (w.alloc (.cells (DA 0 nodv) 30)).heap[w.heap.size]? = some (.cells (DA 0 nodv) 30 (0, 0)) := heap_alloc_last w _
  have hst := store30_row (w.alloc (.cells (DA 0 nodv) 30)) w.heap.size (rm n) 0 nodv nodv nodv_sl hbox
  have HR : Hid (((w.alloc (.cells (DA 0 nodv) 30)).setRow w.heap.size (DA (rm n) nodv)).heap[w.heap.size]? = some (.cells (DA (rm n) nodv) 30 (0, 0))) := setRow_heap _ _ _ _ _ _ hbox
  have HB : Hid (Below w.heap.size w ((w.alloc (.cells (DA 0 nodv) 30)).setRow w.heap.size (DA (rm n) nodv))) := below_setRow (bel1 w _) (Nat.le_refl _) _
  clear hbox
  generalize rm n = r at *
  go_enter Try.func11, Try.ntmps11
  go_wp2
  refine bodyPost_ret (v := .agg (DA r nodv)) ?_ rfl ⟨rfl, HB.out⟩
  exact res30 Try.results11 _ _ _ _ _ rfl HR.out
set_option maxRecDepth 100000 in
set_option maxHeartbeats 1000000 in
/-- A document's row, searched. -/
theorem find_any (a : Option Addr) (cap : Nat) (l : List C) (k : Int) (w : World) (hl : l.length ≤ 1000) (ha : AtL cl w a l) (hu : Rp.Up l) :
    Calls Try.prog 24 #[.slice a l.length cap, .int .i64 k] w fun e w' => e = .returned (.tuple #[.int .i64 (Rp.plc l k), .bool (Rp.fnd l k).isSome]) ∧ Below w.heap.size w w' := by
  have HSR := Hid_of (Rp.plc_sr k hu)
  have hple := Rp.plc_le l k
  have HLO := Hid_of (Rp.tw_lo k l)
  have HHI := Hid_of (Rp.tw_hi k l hu)
  generalize hp : Rp.plc l k = p at *
  generalize hf : (Rp.fnd l k).isSome = fb at *
  clear hp hf hu
  go_enter Try.func24, Try.ntmps24
  go_wp2
  go_loopw [6] (fun i wr => ∃ j : Nat, j ≤ p ∧ i = .int .i64 j ∧ wr = w) (fun i _ => l.length - (intOf i).toNat)
  case atStart => exact ⟨0, Nat.zero_le _, rfl, rfl⟩
  case round =>
    obtain ⟨j, hj, rfl, rfl⟩ := hrel
    by_cases hlt : j < l.length
    · obtain ⟨b, off, rfl, c0, c1, c2⟩ := ha.getC j hlt
      have hji : (j : Int) < (l.length : Int) := by omega
      by_cases hjp : j < p
      · have hlo := HLO.out j hlt hjp
        have dlo : decide (l[j].id < k) = true := decide_eq_true hlo
        generalize l[j].id = x0 at *
        clear ha HLO HHI HSR c1 c2
        go_wp2
        go_roundw
        case rel => exact ⟨j + 1, by omega, by go_num, by first | rfl | trivial⟩
        case measure => simp [intOf]; omega
      · obtain rfl : j = p := by omega
        have hhi := HHI.out j hlt (Nat.le_refl _)
        have dlo : decide (l[j].id < k) = false := decide_eq_false (by omega)
        have heq : (l[j].id == k) = fb := by
          cases fb with
          | true => obtain ⟨_, e⟩ := HSR.out.yes rfl; simpa using e
          | false => simpa using HSR.out.no rfl l[j] (List.getElem_mem hlt)
        have HB : Hid (∀ n, Below wr.heap.size wr (wr.drewN n)) := fun n => below_drewN (Below.refl _ _) n
        generalize l[j].id = x0 at *
        clear ha HLO HHI HSR c1 c2
        go_wp2_with fail
        go_quiet (fail)
        go_wp2
        go_ret2
        exact ⟨rfl, HB.out _⟩
    · have hjl : j = l.length := by omega
      have hpl : p = l.length := by omega
      have hfb : fb = false := by
        cases fb with
        | false => rfl
        | true => obtain ⟨h, _⟩ := HSR.out.yes rfl; omega
      subst hfb
      have HB : Hid (∀ n, Below wr.heap.size wr (wr.drewN n)) := fun n => below_drewN (Below.refl _ _) n
      have dj : decide ((j : Int) < (l.length : Int)) = false := decide_eq_false (by omega)
      have dj2 : decide (j < l.length) = false := decide_eq_false (by omega)
      have hjp : p = j := by omega
      subst hjp
      clear ha HLO HHI HSR hjl hpl
      go_wp2_with fail
      go_quiet (fail)
      go_wp2
      go_ret2
      exact ⟨rfl, HB.out _⟩
end Go.Proofs.Ytjbcchipbdkplaa
