/-
  The words of a map as an array by value, and the calls that join two of them.
-/
import Derived.Test.YtigoadfbccpmkaaRows
import Derived.Test.YtigoadfbccpmkaaM
import Derived.WalkKit
import Derived.WalkSpells
import Derived.WalkLawsBesides
import Derived.Deep.QuietTactic
import Derived.BigQuiet
import Derived.BigRegion
import Derived.RegionTactic
import Derived.ProofKit
import Derived.Below
import Derived.Deep.WholeRow
import Derived.Laws.MakeOwn
import Derived.Laws.CopyRow
import Derived.Laws.CopyOwn
import Derived.Lib.Hide
import Derived.Lib.Strings
import Derived.Lib.Walk
namespace Go.Proofs.Ytigoadfbccpmkaa
open Go.RowKit
set_option linter.unusedVariables false

theorem below_drewN {B : Nat} {a w : World} (h : Below B a w) (n : Nat) : Below B a (w.drewN n) := ⟨h.os, h.tape, h.output, h.size, h.block⟩

theorem up2 (w : World) (A B : Obj) : ((w.alloc A).alloc B).heap[w.heap.size]? = some A ∧ ((w.alloc A).alloc B).heap[w.heap.size + 1]? = some B := ⟨heap_alloc2_old w A B, heap_alloc2_new w A B⟩
theorem up3 (w : World) (A B C : Obj) : (((w.alloc A).alloc B).alloc C).heap[w.heap.size]? = some A ∧ (((w.alloc A).alloc B).alloc C).heap[w.heap.size + 1]? = some B ∧ (((w.alloc A).alloc B).alloc C).heap[w.heap.size + 2]? = some C := by
  have h := heap_alloc_last ((w.alloc A).alloc B) C
  rw [show ((w.alloc A).alloc B).heap.size = w.heap.size + 2 by simp] at h
  exact ⟨(Below.heap_alloc _ C _ (by simp; omega)).trans (up2 w A B).1, (Below.heap_alloc _ C _ (by simp)).trans (up2 w A B).2, h⟩
/-- The 64 words of the bits f. -/
def WA (f : Nat → Bool) : Array Value := ((List.range 64).map fun k => Value.int .u64 (M.wd f k)).toArray
@[simp] theorem WA_size (f : Nat → Bool) : (WA f).size = 64 := by simp [WA]
theorem WA_get (f : Nat → Bool) (k : Nat) (h : k < 64) : (WA f)[k]? = some (.int .u64 (M.wd f k)) := by simp [WA, h]
theorem WA_ext (f g : Nat → Bool) (h : ∀ k, k < 64 → M.wd f k = M.wd g k) : WA f = WA g := by
  have : ((List.range 64).map fun k => Value.int .u64 (M.wd f k)) = (List.range 64).map fun k => Value.int .u64 (M.wd g k) := by
    apply List.map_congr_left
    intro k hk
    rw [h k (List.mem_range.1 hk)]
  rw [WA, WA, this]
theorem WA_set (f g : Nat → Bool) (k x : Nat) (hk : k < 64) (h : ∀ j, j < 64 → j ≠ k → M.wd f j = M.wd g j) (hx : M.wd g k = x) : (WA f).setIfInBounds k (.int .u64 x) = WA g := by
  apply Array.ext_getElem?
  intro j
  rw [Array.getElem?_setIfInBounds]
  by_cases hj : j < 64
  · rw [WA_get g j hj, WA_size]
    by_cases e : k = j
    · subst e; simp [hk, hx]
    · simp [e, WA_get f j hj, h j hj (fun h => e h.symm)]
  · rw [Array.getElem?_eq_none (by rw [WA_size]; omega), Array.getElem?_eq_none (by rw [WA_size]; omega)]
    simp
    intro e
    omega
theorem WA_one (f : Nat → Bool) : ∀ v ∈ (WA f).toList, v.oneCell' = true := by
  intro v hv
  simp [WA] at hv
  obtain ⟨k, _, rfl⟩ := hv
  rfl
theorem WA_all (f : Nat → Bool) : (WA f).all (·.oneCell') = true := by
  rw [Array.all_eq_true_iff_forall_mem]
  intro v hv
  exact WA_one f v (by simpa using hv)
theorem WA_zero : (Value.agg (WA M.nof)) = Value.agg #[.int .u64 0, .int .u64 0, .int .u64 0, .int .u64 0, .int .u64 0, .int .u64 0, .int .u64 0, .int .u64 0, .int .u64 0, .int .u64 0, .int .u64 0, .int .u64 0, .int .u64 0, .int .u64 0, .int .u64 0, .int .u64 0, .int .u64 0, .int .u64 0, .int .u64 0, .int .u64 0, .int .u64 0, .int .u64 0, .int .u64 0, .int .u64 0, .int .u64 0, .int .u64 0, .int .u64 0, .int .u64 0, .int .u64 0, .int .u64 0, .int .u64 0, .int .u64 0, .int .u64 0, .int .u64 0, .int .u64 0, .int .u64 0, .int .u64 0, .int .u64 0, .int .u64 0, .int .u64 0, .int .u64 0, .int .u64 0, .int .u64 0, .int .u64 0, .int .u64 0, .int .u64 0, .int .u64 0, .int .u64 0, .int .u64 0, .int .u64 0, .int .u64 0, .int .u64 0, .int .u64 0, .int .u64 0, .int .u64 0, .int .u64 0, .int .u64 0, .int .u64 0, .int .u64 0, .int .u64 0, .int .u64 0, .int .u64 0, .int .u64 0, .int .u64 0] := by
  unfold WA
  simp only [M.wd_nof]
  rfl
theorem zero64 (w : World) : (zeroValue 64).run Try.prog w = .ok (.agg (WA M.nof)) w := by
  rw [WA_zero]
  exact Try.zeroValue64 w

/-- The load of a whole array, under a name that the walk does not open. -/
def ld64 (a : Addr) : Sem (Array Value) := loadCellsFrom a 0 64 #[]
def st64 (a : Addr) (c : Array Value) : Sem Unit := storeCells a c.toList 0
/-- The whole array at a place of a row. -/
theorem load64 (w : World) (b o : Nat) (c : Array Value) (t : TypeId) (fr : Nat × Nat) (f : Nat → Bool) (hb : w.heap[b]? = some (.cells c t fr)) (hc : ∀ j, j < 64 → c[o + j]? = (WA f)[j]?) :
    (loadCellsFrom ⟨b, o, none⟩ 0 64 #[]).run Try.prog w = .ok (WA f) w := by
  have := run_loadCells_list (P := Try.prog) w ⟨b, o, none⟩ (WA f).toList (fun j v hv => by
    have hadd : (⟨b, o, none⟩ : Addr).add j = ⟨b, o + j, none⟩ := by unfold Addr.add; split <;> simp_all
    have hj : j < 64 := by
      rcases Nat.lt_or_ge j 64 with h | h
      · exact h
      · rw [List.getElem?_eq_none (by simp [WA_size]; omega)] at hv; cases hv
    rw [hadd, cell_of_row w b (o + j) c t fr hb, hc j hj]
    simpa using hv)
  simpa [loadCells, WA_size] using this
theorem load64_row (w : World) (b : Nat) (f : Nat → Bool) (fr : Nat × Nat) (hb : w.heap[b]? = some (.cells (WA f) 64 fr)) :
    (ld64 ⟨b, 0, none⟩).run Try.prog w = .ok (WA f) w := load64 w b 0 _ 64 fr f hb (fun j _ => by rw [Nat.zero_add])
theorem store64_row (w : World) (b : Nat) (f g : Nat → Bool) (hb : w.heap[b]? = some (.cells (WA g) 64 (0, 0))) :
    (st64 ⟨b, 0, none⟩ (WA f)).run Try.prog w = .ok () (w.setRow b (WA f)) := by
  have := run_storeCells_from (P := Try.prog) b 64 (WA f).toList 0 _ w hb (by simp [WA_size]) (WA_one f)
  simpa [st64] using this
/-- What the type of 64 words is, under names that the walk does not open. -/
def sz64 (w : World) : Result Nat := .ok 64 w
def tiV (P : Program) (t : TypeId) (w : World) := (typeInfo t).run P w
theorem sz64_eq (w : World) : sz64 w = .ok 64 w := rfl
@[simp] theorem sz64_of (t : TypeId) (w : World) (h : t = 64) : (sizeOf t).run Try.prog w = sz64 w := by subst h; exact Try.sizeOf64 w
@[simp] theorem ti64_of (t : TypeId) (w : World) (h : t = 64) : (typeInfo t).run Try.prog w = tiV Try.prog 64 w := by subst h; rfl
@[simp] theorem zero64_of (t : TypeId) (w : World) (h : t = 64) : (zeroValue t).run Try.prog w = .ok (.agg (WA M.nof)) w := by subst h; exact zero64 w
@[simp] theorem sz_ld64 {β : Type} (w : World) (A : Addr) (F : Array Value → World → Result β) :
    ((sz64 w).andThen fun a w' => ((loadCellsFrom A 0 a #[]).run Try.prog w').andThen F) = ((ld64 A).run Try.prog w).andThen F := by
  rw [sz64_eq]
  rfl

theorem or_bits (f g : Nat → Bool) (k : Nat) : bits .or .u64 (M.wd f k : Int) (M.wd g k : Int) = (M.wd (M.orf f g) k : Int) := by
  rw [u64_or_nat _ _ (M.wd_lt _ _) (M.wd_lt _ _), M.wd_or]
theorem and_bits (f g : Nat → Bool) (k : Nat) : bits .and .u64 (M.wd f k : Int) (M.wd g k : Int) = (M.wd (M.andf f g) k : Int) := by
  rw [u64_and_nat _ _ (M.wd_lt _ _) (M.wd_lt _ _), M.wd_and]
theorem not_bits (f g : Nat → Bool) (k : Nat) : bits .andNot .u64 (M.wd f k : Int) (M.wd g k : Int) = (M.wd (M.notf f g) k : Int) := by
  rw [u64_andNot_nat _ _ (M.wd_lt _ _) (M.wd_lt _ _), M.wd_not]

@[simp] theorem sz_st64 {β : Type} (w : World) (A : Addr) (c : Array Value) (F : Unit → World → Result β) (X : World → Result β) :
    ((sz64 w).andThen fun a w' => if 64 = a then ((storeCells A c.toList).run Try.prog w').andThen F else X w') = ((st64 A c).run Try.prog w).andThen F := by
  rw [sz64_eq]
  rfl

@[simp] theorem sz_fld {β : Type} (w : World) (X Y : World → Result β) : ((sz64 w).andThen fun a w' => if a = 0 then X w' else Y w') = Y w := by
  rw [sz64_eq]
  rfl
@[simp] theorem sz_any {β : Type} (w : World) (G : World → Result β) : ((sz64 w).andThen fun _ w' => G w') = G w := by
  rw [sz64_eq]
  rfl
theorem size64 (f : Nat → Bool) : (Try.prog.info? 64).map (·.size) = some (WA f).size := by rw [WA_size]; rfl
theorem res64 {fn : Func} {p : Tmp} (h : fn.results = #[.cell p 64]) (tmps : Array Value) (w : World) (g : Nat) (f : Nat → Bool) (hp : tmps.getD p undef = .pointer (some ⟨g, 0, none⟩)) (hg : w.heap[g]? = some (.cells (WA f) 64 (0, 0))) :
    (results fn tmps).run Try.prog w = .ok (.agg (WA f)) w :=
  results_cell_row h tmps w g 64 _ (0, 0) _ hp hg Try.underlying64 rfl (size64 f)

set_option maxRecDepth 100000 in
set_option maxHeartbeats 1000000 in
theorem with_any (f g : Nat → Bool) (w : World) :
    Calls Try.prog 31 #[.agg (WA f), .agg (WA g)] w fun e w' => e = .returned (.agg (WA (M.orf f g))) ∧ Below w.heap.size w w' := by
  go_enter Try.func31, Try.ntmps31
  go_wp2
  go_loopw [6] (fun i wr => ∃ k : Nat, k ≤ 64 ∧ i = .int .i64 k ∧ Below w.heap.size w wr ∧ wr.heap[w.heap.size]? = some (.cells (WA (M.mixf (M.orf f g) f k)) 64 (0, 0)) ∧ wr.heap[w.heap.size + 1]? = some (.cells (WA g) 64 (0, 0)) ∧ wr.heap[w.heap.size + 2]? = some (.cells (WA M.nof) 64 (0, 0))) (fun i _ => 64 - (intOf i).toNat)
  case atStart =>
    exact ⟨0, by omega, rfl, (((Below.refl w.heap.size w).alloc (Nat.le_refl _) _).alloc (by simp) _).alloc (by simp; omega) _, by rw [M.mixf_zero]; exact (up3 w _ _ _).1, (up3 w _ _ _).2.1, (up3 w _ _ _).2.2⟩
  case round =>
    obtain ⟨k, hk, rfl, hbel, h0, h1, h2⟩ := hrel
    by_cases hlt : k < 64
    · have c0 := (cell_of_row wr _ k _ _ _ h0).trans (WA_get _ k hlt)
      have c1 := (cell_of_row wr _ k _ _ _ h1).trans (WA_get _ k hlt)
      have f0 := frozen_of_row wr _ k _ _ h0
      have hz := or_bits f g k
      rw [M.wd_mixf] at c0
      have HB : Hid (Below w.heap.size w (wr.setCell ⟨w.heap.size, k, none⟩ (.int .u64 (M.wd (M.orf f g) k)))) := hbel.setCell (Nat.le_refl _) _
      have H0 : Hid ((wr.setCell ⟨w.heap.size, k, none⟩ (.int .u64 (M.wd (M.orf f g) k))).heap[w.heap.size]? = some (.cells (WA (M.mixf (M.orf f g) f (k + 1))) 64 (0, 0))) := by
        show _ = _
        rw [heap_setCell_same wr _ k _ _ _ h0, WA_set _ _ k _ hlt (fun j _ hj => M.wd_mixf_oth _ _ k j hj) (M.wd_mixf_done _ _ k)]
      have H1 : Hid ((wr.setCell ⟨w.heap.size, k, none⟩ (.int .u64 (M.wd (M.orf f g) k))).heap[w.heap.size + 1]? = some (.cells (WA g) 64 (0, 0))) := (heap_setCell_other wr _ _ _ (by simp)).trans h1
      have H2 : Hid ((wr.setCell ⟨w.heap.size, k, none⟩ (.int .u64 (M.wd (M.orf f g) k))).heap[w.heap.size + 2]? = some (.cells (WA M.nof) 64 (0, 0))) := (heap_setCell_other wr _ _ _ (by simp)).trans h2
      clear h0 h1 h2 hbel
      generalize M.wd (M.orf f g) k = z at *
      generalize M.wd f k = x at *
      generalize M.wd g k = y at *
      go_wp2
      go_region
      all_goals go_wp2
      all_goals go_roundw
      case rel => exact ⟨k + 1, by omega, by go_num, below_drewN HB.out _, H0.out, H1.out, H2.out⟩
      case measure => simp [intOf]; omega
    · have hk64 : k = 64 := by omega
      subst hk64
      rw [WA_ext _ _ (fun j hj => M.wd_mixf_all (M.orf f g) f j hj)] at h0
      have l0 := load64_row wr _ _ _ h0
      have s2 := store64_row wr (w.heap.size + 1 + 1) (M.orf f g) _ h2
      have HB : Hid (Below w.heap.size w (wr.setRow (w.heap.size + 1 + 1) (WA (M.orf f g)))) := below_setRow hbel (by omega) _
      have HR : Hid ((wr.setRow (w.heap.size + 1 + 1) (WA (M.orf f g))).heap[w.heap.size + 1 + 1]? = some (.cells (WA (M.orf f g)) 64 (0, 0))) := setRow_heap wr _ _ _ _ _ h2
      clear h0 h1 h2 hbel
      go_wp2
      refine bodyPost_ret (v := .agg (WA (M.orf f g))) ?_ rfl ⟨rfl, HB.out⟩
      exact res64 Try.results31 _ _ _ _ rfl HR.out
set_option maxRecDepth 100000 in
set_option maxHeartbeats 1000000 in
theorem without_any (f g : Nat → Bool) (w : World) :
    Calls Try.prog 33 #[.agg (WA f), .agg (WA g)] w fun e w' => e = .returned (.agg (WA (M.notf f g))) ∧ Below w.heap.size w w' := by
  go_enter Try.func33, Try.ntmps33
  go_wp2
  go_loopw [6] (fun i wr => ∃ k : Nat, k ≤ 64 ∧ i = .int .i64 k ∧ Below w.heap.size w wr ∧ wr.heap[w.heap.size]? = some (.cells (WA (M.mixf (M.notf f g) f k)) 64 (0, 0)) ∧ wr.heap[w.heap.size + 1]? = some (.cells (WA g) 64 (0, 0)) ∧ wr.heap[w.heap.size + 2]? = some (.cells (WA M.nof) 64 (0, 0))) (fun i _ => 64 - (intOf i).toNat)
  case atStart =>
    exact ⟨0, by omega, rfl, (((Below.refl w.heap.size w).alloc (Nat.le_refl _) _).alloc (by simp) _).alloc (by simp; omega) _, by rw [M.mixf_zero]; exact (up3 w _ _ _).1, (up3 w _ _ _).2.1, (up3 w _ _ _).2.2⟩
  case round =>
    obtain ⟨k, hk, rfl, hbel, h0, h1, h2⟩ := hrel
    by_cases hlt : k < 64
    · have c0 := (cell_of_row wr _ k _ _ _ h0).trans (WA_get _ k hlt)
      have c1 := (cell_of_row wr _ k _ _ _ h1).trans (WA_get _ k hlt)
      have f0 := frozen_of_row wr _ k _ _ h0
      have hz := not_bits f g k
      rw [M.wd_mixf] at c0
      have HB : Hid (Below w.heap.size w (wr.setCell ⟨w.heap.size, k, none⟩ (.int .u64 (M.wd (M.notf f g) k)))) := hbel.setCell (Nat.le_refl _) _
      have H0 : Hid ((wr.setCell ⟨w.heap.size, k, none⟩ (.int .u64 (M.wd (M.notf f g) k))).heap[w.heap.size]? = some (.cells (WA (M.mixf (M.notf f g) f (k + 1))) 64 (0, 0))) := by
        show _ = _
        rw [heap_setCell_same wr _ k _ _ _ h0, WA_set _ _ k _ hlt (fun j _ hj => M.wd_mixf_oth _ _ k j hj) (M.wd_mixf_done _ _ k)]
      have H1 : Hid ((wr.setCell ⟨w.heap.size, k, none⟩ (.int .u64 (M.wd (M.notf f g) k))).heap[w.heap.size + 1]? = some (.cells (WA g) 64 (0, 0))) := (heap_setCell_other wr _ _ _ (by simp)).trans h1
      have H2 : Hid ((wr.setCell ⟨w.heap.size, k, none⟩ (.int .u64 (M.wd (M.notf f g) k))).heap[w.heap.size + 2]? = some (.cells (WA M.nof) 64 (0, 0))) := (heap_setCell_other wr _ _ _ (by simp)).trans h2
      clear h0 h1 h2 hbel
      generalize M.wd (M.notf f g) k = z at *
      generalize M.wd f k = x at *
      generalize M.wd g k = y at *
      go_wp2
      go_region
      all_goals go_wp2
      all_goals go_roundw
      case rel => exact ⟨k + 1, by omega, by go_num, below_drewN HB.out _, H0.out, H1.out, H2.out⟩
      case measure => simp [intOf]; omega
    · have hk64 : k = 64 := by omega
      subst hk64
      rw [WA_ext _ _ (fun j hj => M.wd_mixf_all (M.notf f g) f j hj)] at h0
      have l0 := load64_row wr _ _ _ h0
      have s2 := store64_row wr (w.heap.size + 1 + 1) (M.notf f g) _ h2
      have HB : Hid (Below w.heap.size w (wr.setRow (w.heap.size + 1 + 1) (WA (M.notf f g)))) := below_setRow hbel (by omega) _
      have HR : Hid ((wr.setRow (w.heap.size + 1 + 1) (WA (M.notf f g))).heap[w.heap.size + 1 + 1]? = some (.cells (WA (M.notf f g)) 64 (0, 0))) := setRow_heap wr _ _ _ _ _ h2
      clear h0 h1 h2 hbel
      go_wp2
      refine bodyPost_ret (v := .agg (WA (M.notf f g))) ?_ rfl ⟨rfl, HB.out⟩
      exact res64 Try.results33 _ _ _ _ rfl HR.out
set_option maxRecDepth 100000 in
set_option maxHeartbeats 1000000 in
theorem both_any (f g : Nat → Bool) (w : World) :
    Calls Try.prog 35 #[.agg (WA f), .agg (WA g)] w fun e w' => e = .returned (.agg (WA (M.andf f g))) ∧ Below w.heap.size w w' := by
  go_enter Try.func35, Try.ntmps35
  go_wp2
  go_loopw [6] (fun i wr => ∃ k : Nat, k ≤ 64 ∧ i = .int .i64 k ∧ Below w.heap.size w wr ∧ wr.heap[w.heap.size]? = some (.cells (WA (M.mixf (M.andf f g) f k)) 64 (0, 0)) ∧ wr.heap[w.heap.size + 1]? = some (.cells (WA g) 64 (0, 0)) ∧ wr.heap[w.heap.size + 2]? = some (.cells (WA M.nof) 64 (0, 0))) (fun i _ => 64 - (intOf i).toNat)
  case atStart =>
    exact ⟨0, by omega, rfl, (((Below.refl w.heap.size w).alloc (Nat.le_refl _) _).alloc (by simp) _).alloc (by simp; omega) _, by rw [M.mixf_zero]; exact (up3 w _ _ _).1, (up3 w _ _ _).2.1, (up3 w _ _ _).2.2⟩
  case round =>
    obtain ⟨k, hk, rfl, hbel, h0, h1, h2⟩ := hrel
    by_cases hlt : k < 64
    · have c0 := (cell_of_row wr _ k _ _ _ h0).trans (WA_get _ k hlt)
      have c1 := (cell_of_row wr _ k _ _ _ h1).trans (WA_get _ k hlt)
      have f0 := frozen_of_row wr _ k _ _ h0
      have hz := and_bits f g k
      rw [M.wd_mixf] at c0
      have HB : Hid (Below w.heap.size w (wr.setCell ⟨w.heap.size, k, none⟩ (.int .u64 (M.wd (M.andf f g) k)))) := hbel.setCell (Nat.le_refl _) _
      have H0 : Hid ((wr.setCell ⟨w.heap.size, k, none⟩ (.int .u64 (M.wd (M.andf f g) k))).heap[w.heap.size]? = some (.cells (WA (M.mixf (M.andf f g) f (k + 1))) 64 (0, 0))) := by
        show _ = _
        rw [heap_setCell_same wr _ k _ _ _ h0, WA_set _ _ k _ hlt (fun j _ hj => M.wd_mixf_oth _ _ k j hj) (M.wd_mixf_done _ _ k)]
      have H1 : Hid ((wr.setCell ⟨w.heap.size, k, none⟩ (.int .u64 (M.wd (M.andf f g) k))).heap[w.heap.size + 1]? = some (.cells (WA g) 64 (0, 0))) := (heap_setCell_other wr _ _ _ (by simp)).trans h1
      have H2 : Hid ((wr.setCell ⟨w.heap.size, k, none⟩ (.int .u64 (M.wd (M.andf f g) k))).heap[w.heap.size + 2]? = some (.cells (WA M.nof) 64 (0, 0))) := (heap_setCell_other wr _ _ _ (by simp)).trans h2
      clear h0 h1 h2 hbel
      generalize M.wd (M.andf f g) k = z at *
      generalize M.wd f k = x at *
      generalize M.wd g k = y at *
      go_wp2
      go_region
      all_goals go_wp2
      all_goals go_roundw
      case rel => exact ⟨k + 1, by omega, by go_num, below_drewN HB.out _, H0.out, H1.out, H2.out⟩
      case measure => simp [intOf]; omega
    · have hk64 : k = 64 := by omega
      subst hk64
      rw [WA_ext _ _ (fun j hj => M.wd_mixf_all (M.andf f g) f j hj)] at h0
      have l0 := load64_row wr _ _ _ h0
      have s2 := store64_row wr (w.heap.size + 1 + 1) (M.andf f g) _ h2
      have HB : Hid (Below w.heap.size w (wr.setRow (w.heap.size + 1 + 1) (WA (M.andf f g)))) := below_setRow hbel (by omega) _
      have HR : Hid ((wr.setRow (w.heap.size + 1 + 1) (WA (M.andf f g))).heap[w.heap.size + 1 + 1]? = some (.cells (WA (M.andf f g)) 64 (0, 0))) := setRow_heap wr _ _ _ _ _ h2
      clear h0 h1 h2 hbel
      go_wp2
      refine bodyPost_ret (v := .agg (WA (M.andf f g))) ?_ rfl ⟨rfl, HB.out⟩
      exact res64 Try.results35 _ _ _ _ rfl HR.out
end Go.Proofs.Ytigoadfbccpmkaa
