/-
  The document's proposer: a struct of 17 cells.
-/
import Derived.Test.YtpolmfgklgggcaaRM
import Derived.Test.YtpolmfgklgggcaaPK
namespace Go.Proofs.Ytpolmfgklgggcaa
open Go.RowKit Go.Maps
set_option linter.unusedVariables false
open M (E V fup)

/-- 17 cells, as they lie. -/
def V17 (v0 v1 v2 v3 v4 v5 v6 v7 v8 v9 v10 v11 v12 v13 v14 v15 v16 : Value) : Array Value := #[v0, v1, v2, v3, v4, v5, v6, v7, v8, v9, v10, v11, v12, v13, v14, v15, v16]
section
variable {v0 v1 v2 v3 v4 v5 v6 v7 v8 v9 v10 v11 v12 v13 v14 v15 v16 : Value} {w : World} {b : Nat}
@[simp] theorem V17_size : (V17 v0 v1 v2 v3 v4 v5 v6 v7 v8 v9 v10 v11 v12 v13 v14 v15 v16).size = 17 := rfl
theorem row17 (h : w.heap[b]? = some (.cells (V17 v0 v1 v2 v3 v4 v5 v6 v7 v8 v9 v10 v11 v12 v13 v14 v15 v16) 32 (0, 0))) : (w.cell? ⟨b, 0, none⟩ = some v0 ∧ w.cell? ⟨b, 1, none⟩ = some v1 ∧ w.cell? ⟨b, 2, none⟩ = some v2 ∧ w.cell? ⟨b, 3, none⟩ = some v3 ∧ w.cell? ⟨b, 4, none⟩ = some v4 ∧ w.cell? ⟨b, 5, none⟩ = some v5 ∧ w.cell? ⟨b, 6, none⟩ = some v6 ∧ w.cell? ⟨b, 7, none⟩ = some v7 ∧ w.cell? ⟨b, 8, none⟩ = some v8 ∧ w.cell? ⟨b, 9, none⟩ = some v9 ∧ w.cell? ⟨b, 10, none⟩ = some v10 ∧ w.cell? ⟨b, 11, none⟩ = some v11 ∧ w.cell? ⟨b, 12, none⟩ = some v12 ∧ w.cell? ⟨b, 13, none⟩ = some v13 ∧ w.cell? ⟨b, 14, none⟩ = some v14 ∧ w.cell? ⟨b, 15, none⟩ = some v15 ∧ w.cell? ⟨b, 16, none⟩ = some v16) ∧ ∀ j, w.frozen? ⟨b, j, none⟩ = false :=
  ⟨⟨by rw [cell_of_row w b 0 _ _ _ h]; rfl, by rw [cell_of_row w b 1 _ _ _ h]; rfl, by rw [cell_of_row w b 2 _ _ _ h]; rfl, by rw [cell_of_row w b 3 _ _ _ h]; rfl, by rw [cell_of_row w b 4 _ _ _ h]; rfl, by rw [cell_of_row w b 5 _ _ _ h]; rfl, by rw [cell_of_row w b 6 _ _ _ h]; rfl, by rw [cell_of_row w b 7 _ _ _ h]; rfl, by rw [cell_of_row w b 8 _ _ _ h]; rfl, by rw [cell_of_row w b 9 _ _ _ h]; rfl, by rw [cell_of_row w b 10 _ _ _ h]; rfl, by rw [cell_of_row w b 11 _ _ _ h]; rfl, by rw [cell_of_row w b 12 _ _ _ h]; rfl, by rw [cell_of_row w b 13 _ _ _ h]; rfl, by rw [cell_of_row w b 14 _ _ _ h]; rfl, by rw [cell_of_row w b 15 _ _ _ h]; rfl, by rw [cell_of_row w b 16 _ _ _ h]; rfl⟩, fun j => frozen_of_row w b j _ _ h⟩
end
abbrev Z17 : Array Value := V17 (.int .i64 0) (.int .i64 0) (.int .i64 0) (.int .i64 0) (.int .i64 0) (.int .i64 0) (.bool false) (.bool false) (.bool false) (.bool false) (.bool false) (.bool false) (.bool false) (.bool false) (.bool false) (.bool false) (.slice none 0 0)
theorem zero32 (w : World) : (zeroValue 32).run Try.prog w = .ok (.agg Z17) w := Try.zeroValue32 w
/-! what the type of 17 cells is, under names that the walk does not open -/
def ld32 (a : Addr) : Sem (Array Value) := loadCellsFrom a 0 17 #[]
def st32 (a : Addr) (c : Array Value) : Sem Unit := storeCells a c.toList 0
def sz32 (w : World) : Result Nat := .ok 17 w
def ti32 (P : Program) (t : TypeId) (w : World) := (typeInfo t).run P w
theorem sz32_eq (w : World) : sz32 w = .ok 17 w := rfl
@[simp] theorem sz32_of (t : TypeId) (w : World) (h : t = 32) : (sizeOf t).run Try.prog w = sz32 w := by subst h; exact Try.sizeOf32 w
@[simp] theorem ti32_of (t : TypeId) (w : World) (h : t = 32) : (typeInfo t).run Try.prog w = ti32 Try.prog 32 w := by subst h; rfl
@[simp] theorem zero32_of (t : TypeId) (w : World) (h : t = 32) : (zeroValue t).run Try.prog w = .ok (.agg Z17) w := by subst h; exact zero32 w
@[simp] theorem sz_ld32 {β : Type} (w : World) (A : Addr) (F : Array Value → World → Result β) :
    ((sz32 w).andThen fun a w' => ((loadCellsFrom A 0 a #[]).run Try.prog w').andThen F) = ((ld32 A).run Try.prog w).andThen F := by
  rw [sz32_eq]
  rfl
@[simp] theorem sz_st32 {β : Type} (w : World) (A : Addr) (c : Array Value) (F : Unit → World → Result β) (X : World → Result β) :
    ((sz32 w).andThen fun a w' => if 17 = a then ((storeCells A c.toList).run Try.prog w').andThen F else X w') = ((st32 A c).run Try.prog w).andThen F := by
  rw [sz32_eq]
  rfl
@[simp] theorem sz_fld32 {β : Type} (w : World) (X Y : World → Result β) : ((sz32 w).andThen fun a w' => if a = 0 then X w' else Y w') = Y w := by
  rw [sz32_eq]
  rfl
@[simp] theorem sz_any32 {β : Type} (w : World) (G : World → Result β) : ((sz32 w).andThen fun _ w' => G w') = G w := by
  rw [sz32_eq]
  rfl
/-- The document's proposer, its votes at a with room for c. -/
def dvv (a : Option Addr) (c : Nat) (x : M.R) : Array Value := V17 (.int .i64 x.n) (.int .i64 x.me) (.int .i64 x.fr) (.int .i64 x.nx) (.int .i64 x.b.i) (.int .i64 x.b.t) (.bool x.ak) (.bool x.ld) (.bool x.fd) (.bool (x.who 0)) (.bool (x.who 1)) (.bool (x.who 2)) (.bool (x.who 3)) (.bool (x.who 4)) (.bool (x.who 5)) (.bool (x.who 6)) (.slice a x.l.length c)
@[simp] theorem dvv_size (a : Option Addr) (c : Nat) (x : M.R) : (dvv a c x).size = 17 := rfl
theorem dvv_one (a : Option Addr) (c : Nat) (x : M.R) : ∀ v ∈ (dvv a c x).toList, v.oneCell' = true := by
  intro v hv
  simp [dvv, V17] at hv
  rcases hv with rfl | rfl | rfl | rfl | rfl | rfl | rfl | rfl | rfl | rfl | rfl | rfl | rfl | rfl | rfl | rfl | rfl <;> rfl
theorem load32_row {w : World} {b : Nat} {a : Option Addr} {c : Nat} {x : M.R} (hb : w.heap[b]? = some (.cells (dvv a c x) 32 (0, 0))) : (ld32 ⟨b, 0, none⟩).run Try.prog w = .ok (dvv a c x) w := by
  have := run_loadCells_list (P := Try.prog) w ⟨b, 0, none⟩ (dvv a c x).toList (fun j v hv => by
    have hadd : (⟨b, 0, none⟩ : Addr).add j = ⟨b, j, none⟩ := by unfold Addr.add; split <;> simp_all
    rw [hadd, cell_of_row w b j _ _ _ hb]
    simpa using hv)
  simpa [loadCells, dvv_size, ld32] using this
theorem store32_row {w : World} {b : Nat} {cs : Array Value} (hz : cs.size = 17) (a : Option Addr) (c : Nat) (x : M.R) (hb : w.heap[b]? = some (.cells cs 32 (0, 0))) : (st32 ⟨b, 0, none⟩ (dvv a c x)).run Try.prog w = .ok () (w.setRow b (dvv a c x)) := by
  have := run_storeCells_from (P := Try.prog) b 32 (dvv a c x).toList 0 _ w hb (by simp [hz]) (dvv_one a c x)
  simpa [st32, hz] using this
theorem size32 (a : Option Addr) (c : Nat) (x : M.R) : (Try.prog.info? 32).map (·.size) = some (dvv a c x).size := by rw [dvv_size]; kernel_rfl
theorem res32 {fn : Func} {p u : Tmp} (h : fn.results = #[.cell p 32, .tmp u]) (tmps : Array Value) (w : World) (g : Nat) (a : Option Addr) (c : Nat) (x : M.R) (hp : tmps.getD p undef = .pointer (some ⟨g, 0, none⟩)) (hg : w.heap[g]? = some (.cells (dvv a c x) 32 (0, 0))) :
    (results fn tmps).run Try.prog w = .ok (.tuple #[.agg (dvv a c x), tmps.getD u undef]) w := by
  have hp' : tmps[p]?.getD undef = .pointer (some ⟨g, 0, none⟩) := by simpa using hp
  rw [results_cell_tmp h]
  simp [asAddr, hp', run_loadVar_row w g 32 32 (dvv a c x) (0, 0) _ hg Try.underlying32 rfl (size32 a c x)]
theorem res32v {fn : Func} {p u : Tmp} (h : fn.results = #[.cell p 32, .tmp u]) (tmps : Array Value) (w : World) (g : Nat) (dd : Array Value) (hp : tmps.getD p undef = .pointer (some ⟨g, 0, none⟩)) (hg : w.heap[g]? = some (.cells dd 32 (0, 0))) (hs : dd.size = 17) :
    (results fn tmps).run Try.prog w = .ok (.tuple #[.agg dd, tmps.getD u undef]) w := by
  have hp' : tmps[p]?.getD undef = .pointer (some ⟨g, 0, none⟩) := by simpa using hp
  have hz : (Try.prog.info? 32).map (·.size) = some dd.size := by rw [hs]; kernel_rfl
  rw [results_cell_tmp h]
  simp [asAddr, hp', run_loadVar_row w g 32 32 dd (0, 0) _ hg Try.underlying32 rfl hz]
theorem r0_eq (n me : Int) : (Z17.setIfInBounds 0 (.int .i64 n)).setIfInBounds 1 (.int .i64 me) = dvv none 0 (M.r0 n me) := rfl
theorem M.nde_quo (n me : Int) : M.nde n me = (decide (0 < M.quo n) && decide (0 ≤ me) && decide (me < n)) := by
  unfold M.nde M.quo
  by_cases h : n < 1 ∨ 7 < n
  · rw [if_pos h]
    rcases h with h | h
    · rw [decide_eq_false (show ¬ 1 ≤ n by omega)]; simp
    · rw [decide_eq_false (show ¬ n ≤ 7 by omega)]; simp
  · rw [if_neg h, decide_eq_true (show 1 ≤ n by omega), decide_eq_true (show n ≤ 7 by omega), decide_eq_true (show 0 < n / 2 + 1 by omega)]
    rfl
/-- In memory. -/
structure XX (w : World) (a : Option Addr) (c : Nat) (x : M.R) : Prop where
  xl : XL vl w a c x.l
  lt : ∀ k, blk a k → k < w.heap.size
section
variable {w w' : World} {a : Option Addr} {c : Nat} {x : M.R}
theorem XX.keepBut (h : XX w a c x) (hb : ∀ k, k < w.heap.size → blk a k → w'.heap[k]? = w.heap[k]?) (hs : w.heap.size ≤ w'.heap.size) : XX w' a c x := ⟨h.xl.keepBut hb, fun k hk => Nat.lt_of_lt_of_le (h.lt k hk) hs⟩
theorem XX.keep (h : XX w a c x) (hb : Below w.heap.size w w') : XX w' a c x := h.keepBut (fun k hk _ => hb.block k hk) hb.size
theorem XX.of {y : M.R} (h : XX w a c x) (e : y.l = x.l) : XX w a c y := ⟨by rw [e]; exact h.xl, h.lt⟩
theorem XX.emp (w : World) {y : M.R} (e : y.l = []) : XX w none 0 y := ⟨by rw [e]; exact XL.emp w, fun k hk => by obtain ⟨_, _, h⟩ := hk; cases h⟩
end
/-- Where the votes of a call's result lie. -/
def New (w : World) (a a' : Option Addr) : Prop := ∀ k, blk a' k → blk a k ∨ w.heap.size ≤ k
theorem New.refl (w : World) (a : Option Addr) : New w a a := fun k hk => .inl hk
theorem New.none (w : World) (a : Option Addr) : New w a none := fun k hk => by obtain ⟨_, _, h⟩ := hk; cases h
theorem bel_setRow {B : Nat} {w0 w : World} {g : Nat} (h : Below B w0 w) (hg : B ≤ g) (cs : Array Value) : Below B w0 (w.setRow g cs) :=
  ⟨h.os, h.tape, h.output, by have := h.size; simp [World.setRow]; omega, fun k hk => (setRow_other _ _ _ _ (by omega)).trans (h.block k hk)⟩
theorem setRow32 {w : World} {g : Nat} {cs : Array Value} (h : w.heap[g]? = some (.cells cs 32 (0, 0))) (ds : Array Value) : (w.setRow g ds).heap[g]? = some (.cells ds 32 (0, 0)) := setRow_heap _ _ cs _ 32 (0, 0) h
theorem f10_res : Try.f10.results = #[.cell 4 32, .tmp 5] := rfl
set_option maxRecDepth 100000 in
set_option maxHeartbeats 1000000 in
theorem rnew_any (n me : Int) (w : World) : Calls Try.prog 10 #[.int .i64 n, .int .i64 me] w fun e w' => e = .returned (.tuple #[.agg (dvv none 0 (M.r0 n me)), .bool (M.nde n me)]) ∧ Below w.heap.size w w' := by
  obtain ⟨W1, HW1⟩ : ∃ W1, Hid (w.alloc (.cells Z17 32) = W1) := ⟨_, Hid_of rfl⟩
  have hb1 : Below w.heap.size w W1 := by rw [← HW1.out]; exact bel1 w _
  have hr1 : W1.heap[w.heap.size]? = some (.cells Z17 32 (0, 0)) := by rw [← HW1.out]; exact heap_alloc_last w _
  have HB1 := Hid_of hb1
  have HR1 := Hid_of hr1
  have st := store32_row (w := W1) (b := w.heap.size) (cs := Z17) rfl none 0 (M.r0 n me) hr1
  have cq := rquorum_any n W1
  have HZ : Hid ((dvv none 0 (M.r0 n me)).size = 17) := Hid_of rfl
  obtain ⟨dd, HDD⟩ : ∃ dd, Hid (dvv none 0 (M.r0 n me) = dd) := ⟨_, Hid_of rfl⟩
  obtain ⟨nd, HND⟩ : ∃ nd, Hid (M.nde n me = nd) := ⟨_, Hid_of rfl⟩
  rw [HDD.out] at st HZ ⊢
  rw [HND.out]
  clear hb1 hr1
  go_enter Try.func10, Try.ntmps10
  go_upto_region 1 with fail
  rw [HW1.out]
  clear HW1
  go_wp2_with fail
  refine cq.mono ?_
  clear cq
  rintro e w1 ⟨rfl, hw1⟩
  obtain rfl := hw1.symm
  clear hw1
  rw [r0_eq n me, HDD.out]
  have HK := Hid_of (bel_setRow HB1.out (Nat.le_refl _) dd)
  have HG := Hid_of (setRow32 HR1.out dd)
  have hq := M.nde_quo n me
  rw [HND.out] at hq
  have hz := HZ.out
  by_cases h0 : 0 < M.quo n
  · have d0 : decide (0 < M.quo n) = true := decide_eq_true h0
    rw [d0] at hq
    generalize M.quo n = qn at *
    by_cases h1 : 0 ≤ me
    · have d1 : decide (0 ≤ me) = true := decide_eq_true h1
      rw [d1, Bool.true_and, Bool.true_and] at hq
      obtain rfl := hq
      clear h0 h1
      go_wp2
      refine bodyPost_ret (v := .tuple #[.agg dd, .bool (decide (me < n))]) ?_ rfl ⟨rfl, HK.out⟩
      exact res32v f10_res _ _ w.heap.size _ rfl HG.out HZ.out
    · have d1 : decide (0 ≤ me) = false := decide_eq_false h1
      rw [d1, Bool.and_false, Bool.false_and] at hq
      obtain rfl := hq
      clear h0 h1
      go_wp2
      refine bodyPost_ret (v := .tuple #[.agg dd, .bool false]) ?_ rfl ⟨rfl, HK.out⟩
      exact res32v f10_res _ _ w.heap.size _ rfl HG.out HZ.out
  · have d0 : decide (0 < M.quo n) = false := decide_eq_false h0
    rw [d0, Bool.false_and, Bool.false_and] at hq
    obtain rfl := hq
    generalize M.quo n = qn at *
    clear h0
    go_wp2
    refine bodyPost_ret (v := .tuple #[.agg dd, .bool false]) ?_ rfl ⟨rfl, HK.out⟩
    exact res32v f10_res _ _ w.heap.size _ rfl HG.out HZ.out

end Go.Proofs.Ytpolmfgklgggcaa
