import Derived.Test.YtgodnpngdbelhaaGreatGP31
set_option maxRecDepth 100000
set_option maxHeartbeats 8000000
set_option linter.unusedVariables false
set_option linter.unusedSimpArgs false
open Go.Proofs.Tryz
namespace Go.Proofs.YtgodnpngdbelhaaGreat.Dn
open Go.RowKit Go.Maps
open Go.Proofs.YtgodnpngdbelhaaGreat.M (E V)
open Go.Proofs.YtgodnpngdbelhaaGreat.Rm (NT R)
open Go.Proofs.YtgodnpngdbelhaaGreat.Np (dvv ld32 st32)
def V27 (v0 v1 v2 v3 v4 v5 v6 v7 v8 v9 v10 v11 v12 v13 v14 v15 v16 v17 v18 v19 v20 v21 v22 v23 v24 v25 v26 : Value) : Array Value := #[v0, v1, v2, v3, v4, v5, v6, v7, v8, v9, v10, v11, v12, v13, v14, v15, v16, v17, v18, v19, v20, v21, v22, v23, v24, v25, v26]
structure DA where
 aa : Option Addr
 ac : Nat
 pa : Option Addr
 pc : Nat
 la : LA
def rvv (x : DR) (d : DA) : Array Value := V27 (.int .i64 x.n) (.int .i64 x.me) (.int .i64 x.a.p.i) (.int .i64 x.a.p.t) (.int .i64 x.a.base) (.slice d.aa x.a.l.length d.ac) (.int .i64 x.p.n) (.int .i64 x.p.me) (.int .i64 x.p.fr) (.int .i64 x.p.nx) (.int .i64 x.p.b.i) (.int .i64 x.p.b.t) (.bool x.p.ak) (.bool x.p.ld) (.bool x.p.fd) (.bool (x.p.who 0)) (.bool (x.p.who 1)) (.bool (x.p.who 2)) (.bool (x.p.who 3)) (.bool (x.p.who 4)) (.bool (x.p.who 5)) (.bool (x.p.who 6)) (.slice d.pa x.p.l.length d.pc) (.int .i64 x.l.n) (.int .i64 x.l.base) (.slice d.la.ta x.l.td.length d.la.tc) (.slice d.la.va x.l.vs.length d.la.vc)
@[simp] theorem rvv_size (x : DR) (d : DA) : (rvv x d).size = 27 := rfl
theorem rvv_one (x : DR) (d : DA) : ∀ v ∈ (rvv x d).toList, v.oneCell' = true := by
 intro v hv; simp [rvv, V27] at hv; rcases hv with rfl | rfl | rfl | rfl | rfl | rfl | rfl | rfl | rfl | rfl | rfl | rfl | rfl | rfl | rfl | rfl | rfl | rfl | rfl | rfl | rfl | rfl | rfl | rfl | rfl | rfl | rfl <;> rfl
section
variable {w : World} {b : Nat} {x : DR} {d : DA}
theorem rowR (h : w.heap[b]? = some (.cells (rvv x d) 54 (0, 0))) : (w.cell? ⟨b, 0, none⟩ = some (.int .i64 x.n) ∧ w.cell? ⟨b, 1, none⟩ = some (.int .i64 x.me) ∧ w.cell? ⟨b, 2, none⟩ = some (.int .i64 x.a.p.i) ∧ w.cell? ⟨b, 3, none⟩ = some (.int .i64 x.a.p.t) ∧ w.cell? ⟨b, 4, none⟩ = some (.int .i64 x.a.base) ∧ w.cell? ⟨b, 5, none⟩ = some (.slice d.aa x.a.l.length d.ac) ∧ w.cell? ⟨b, 23, none⟩ = some (.int .i64 x.l.n) ∧ w.cell? ⟨b, 24, none⟩ = some (.int .i64 x.l.base) ∧ w.cell? ⟨b, 25, none⟩ = some (.slice d.la.ta x.l.td.length d.la.tc) ∧ w.cell? ⟨b, 26, none⟩ = some (.slice d.la.va x.l.vs.length d.la.vc)) ∧ ∀ j, w.frozen? ⟨b, j, none⟩ = false :=
 ⟨⟨by rw [cell_of_row w b 0 _ _ _ h]; rfl, by rw [cell_of_row w b 1 _ _ _ h]; rfl, by rw [cell_of_row w b 2 _ _ _ h]; rfl, by rw [cell_of_row w b 3 _ _ _ h]; rfl, by rw [cell_of_row w b 4 _ _ _ h]; rfl, by rw [cell_of_row w b 5 _ _ _ h]; rfl, by rw [cell_of_row w b 23 _ _ _ h]; rfl, by rw [cell_of_row w b 24 _ _ _ h]; rfl, by rw [cell_of_row w b 25 _ _ _ h]; rfl, by rw [cell_of_row w b 26 _ _ _ h]; rfl⟩, fun j => frozen_of_row w b j _ _ h⟩
end
abbrev Z27 : Array Value := V27 (.int .i64 0) (.int .i64 0) (.int .i64 0) (.int .i64 0) (.int .i64 0) (.slice none 0 0) (.int .i64 0) (.int .i64 0) (.int .i64 0) (.int .i64 0) (.int .i64 0) (.int .i64 0) (.bool false) (.bool false) (.bool false) (.bool false) (.bool false) (.bool false) (.bool false) (.bool false) (.bool false) (.bool false) (.slice none 0 0) (.int .i64 0) (.int .i64 0) (.slice none 0 0) (.slice none 0 0)
theorem zero54 (w : World) : (zeroValue 54).run prog w = .ok (.agg Z27) w := Tryz.zeroValue54 w
def ldR (a : Addr) : Sem (Array Value) := loadCellsFrom a 0 27 #[]
def stR (a : Addr) (c : Array Value) : Sem Unit := storeCells a c.toList 0
def szR (w : World) : Result Nat := .ok 27 w
def tiR (P : Program) (t : TypeId) (w : World) := (typeInfo t).run P w
theorem szR_eq (w : World) : szR w = .ok 27 w := rfl
@[simp] theorem szR_of (t : TypeId) (w : World) (h : t = 54) : (sizeOf t).run prog w = szR w := by subst h; exact Tryz.sizeOf54 w
@[simp] theorem tiR_of (t : TypeId) (w : World) (h : t = 54) : (typeInfo t).run prog w = tiR prog 54 w := by subst h; rfl
@[simp] theorem zeroR_of (t : TypeId) (w : World) (h : t = 54) : (zeroValue t).run prog w = .ok (.agg Z27) w := by subst h; exact zero54 w
@[simp] theorem sz_ldR {β : Type} (w : World) (A : Addr) (F : Array Value → World → Result β) :
  ((szR w).andThen fun a w' => ((loadCellsFrom A 0 a #[]).run prog w').andThen F) = ((ldR A).run prog w).andThen F := by
 rw [szR_eq]; rfl
@[simp] theorem sz_stR {β : Type} (w : World) (A : Addr) (c : Array Value) (F : Unit → World → Result β) (X : World → Result β) :
  ((szR w).andThen fun a w' => if 27 = a then ((storeCells A c.toList).run prog w').andThen F else X w') = ((stR A c).run prog w).andThen F := by
 rw [szR_eq]; rfl
@[simp] theorem sz_fldR {β : Type} (w : World) (X Y : World → Result β) : ((szR w).andThen fun a w' => if a = 0 then X w' else Y w') = Y w := by
 rw [szR_eq]; rfl
@[simp] theorem sz_anyR {β : Type} (w : World) (G : World → Result β) : ((szR w).andThen fun _ w' => G w') = G w := by
 rw [szR_eq]; rfl
theorem storeCells_at (g : Nat) (t : TypeId) (o : Nat) : ∀ (vs : List Value) (i : Nat) (cur : Array Value) (w : World), w.heap[g]? = some (.cells cur t (0, 0)) → o + i + vs.length ≤ cur.size → (∀ v ∈ vs, v.oneCell' = true) → ∃ w', (storeCells ⟨g, o, none⟩ vs i).run prog w = .ok () w' ∧ w'.heap[g]? = some (.cells (cur.toList.take (o + i) ++ vs ++ cur.toList.drop (o + i + vs.length)).toArray t (0, 0)) ∧ Fr w (· = g) w' (· = g)
 | [], i, cur, w, hg, hl, _ => ⟨w, rfl, by rw [hg]; simp, Fr.refl _ _⟩
 | v :: rest, i, cur, w, hg, hl, h1 => by
  have hi : o + i < cur.size := by simp at hl; omega
  have hadd : (⟨g, o, none⟩ : Addr).add i = ⟨g, o + i, none⟩ := by unfold Addr.add; split <;> simp_all
  have hcell : w.cell? ⟨g, o + i, none⟩ = some cur[o + i] := by simp [World.cell?, hg, hi]
  have hfro : w.frozen? ⟨g, o + i, none⟩ = false := by simp [World.frozen?, hg]
  have hst : (store ((⟨g, o, none⟩ : Addr).add i) v).run prog w = .ok () (w.setCell ⟨g, o + i, none⟩ v) := by
   rw [hadd, run_store prog w _ v _ (h1 v (by simp)), hcell]; simp [hfro]
  have hg2 := heap_setCell_same w g (o + i) _ _ v hg; obtain ⟨w', hr, hw, hf⟩ := storeCells_at g t o rest (i + 1) _ _ hg2 (by simp at hl ⊢; omega) (fun x hx => h1 x (by simp [hx])); refine ⟨w', ?_, ?_, (fr_one w g (o + i) v).trans hf⟩
  ·simp only [storeCells, Sem.run_bind, hst, Result.andThen_ok, hr]
  ·rw [hw]; congr 3; apply List.ext_getElem?; intro k; have e1 : o + (i + 1) = o + i + 1 := by omega
   simp only [e1, Array.toList_setIfInBounds, List.getElem?_append, List.length_take, List.length_set, Array.length_toList, List.length_append, List.length_cons, List.getElem?_drop, List.getElem?_take, List.getElem?_set]; by_cases hk : k < o + i
   ·simp [hk, show k < o + i + 1 by omega, show min (o + i + 1) cur.size = o + i + 1 by omega, show min (o + i) cur.size = o + i by omega, show o + i ≠ k by omega, show k < o + i + 1 + rest.length by omega, show k < o + i + (rest.length + 1) by omega]
   ·by_cases hk2 : k = o + i
    ·subst hk2; simp [show min (o + i + 1) cur.size = o + i + 1 by omega, show min (o + i) cur.size = o + i by omega, hi, show o + i < o + i + 1 + rest.length by omega]
     try (intros; omega)
    ·by_cases hk3 : k < o + i + 1 + rest.length
     ·simp [hk, show ¬ k < o + i + 1 by omega, show min (o + i + 1) cur.size = o + i + 1 by omega, show min (o + i) cur.size = o + i by omega, show k - (o + i) = (k - (o + i + 1)) + 1 by omega, hk3, show k < o + i + (rest.length + 1) by omega]
     ·simp [hk3, show ¬ o + i = k by omega, show min (o + i + 1) cur.size = o + i + 1 by omega, show min (o + i) cur.size = o + i by omega, show ¬ k < o + i + (rest.length + 1) by omega, show o + i + 1 + rest.length + (k - (o + i + 1 + rest.length)) = k by omega, show o + i + (rest.length + 1) + (k - (o + i + (rest.length + 1))) = k by omega]
section
variable {w w' : World} {b : Nat} {x : DR} {d : DA}
theorem loadR (hb : w.heap[b]? = some (.cells (rvv x d) 54 (0, 0))) : (ldR ⟨b, 0, none⟩).run prog w = .ok (rvv x d) w := by
 have := run_loadCells_list (P := prog) w ⟨b, 0, none⟩ (rvv x d).toList (fun j v hv => by
  have hadd : (⟨b, 0, none⟩ : Addr).add j = ⟨b, j, none⟩ := by unfold Addr.add; split <;> simp_all
  rw [hadd, cell_of_row w b j _ _ _ hb]; simpa using hv)
 simpa [loadCells, rvv_size, ldR] using this
theorem storeR {cs : Array Value} (hz : cs.size = 27) (x : DR) (d : DA) (hb : w.heap[b]? = some (.cells cs 54 (0, 0))) : (stR ⟨b, 0, none⟩ (rvv x d)).run prog w = .ok () (w.setRow b (rvv x d)) := by
 have := run_storeCells_from (P := prog) b 54 (rvv x d).toList 0 _ w hb (by simp [hz, rvv_size]) (rvv_one x d); simpa [stR, hz] using this
theorem loadRp (hb : w.heap[b]? = some (.cells (rvv x d) 54 (0, 0))) : (ld32 ⟨b, 6, none⟩).run prog w = .ok (dvv d.pa d.pc x.p) w := by
 have := run_loadCells_list (P := prog) w ⟨b, 6, none⟩ (dvv d.pa d.pc x.p).toList (fun j v hv => by
  have hadd : (⟨b, 6, none⟩ : Addr).add j = ⟨b, 6 + j, none⟩ := by unfold Addr.add; split <;> simp_all
  rw [hadd, cell_of_row w b (6 + j) _ _ _ hb]; have hj : j < 17 := (List.getElem?_eq_some_iff.1 hv).1; rw [← hv]; have hj2 : j = 0 ∨ j = 1 ∨ j = 2 ∨ j = 3 ∨ j = 4 ∨ j = 5 ∨ j = 6 ∨ j = 7 ∨ j = 8 ∨ j = 9 ∨ j = 10 ∨ j = 11 ∨ j = 12 ∨ j = 13 ∨ j = 14 ∨ j = 15 ∨ j = 16 := by omega
  rcases hj2 with rfl | rfl | rfl | rfl | rfl | rfl | rfl | rfl | rfl | rfl | rfl | rfl | rfl | rfl | rfl | rfl | rfl <;> rfl)
 simpa [loadCells, Np.dvv_size, ld32] using this
theorem storeRp (hb : w.heap[b]? = some (.cells (rvv x d) 54 (0, 0))) (a : Option Addr) (c : Nat) (y : Np.M.R) : ∃ w', (st32 ⟨b, 6, none⟩ (dvv a c y)).run prog w = .ok () w' ∧ w'.heap[b]? = some (.cells (rvv { x with p := y } { d with pa := a, pc := c }) 54 (0, 0)) ∧ Fr w (· = b) w' (· = b) := by
 obtain ⟨w', h1, h2, h3⟩ := storeCells_at b 54 6 (dvv a c y).toList 0 _ w hb (by rw [rvv_size]; show 6 + 0 + 17 ≤ 27; decide) (Np.dvv_one a c y); exact ⟨w', h1, h2, h3⟩
def putA (w : World) (b : Nat) (v0 v1 v2 v3 : Value) : World := (((w.setCell ⟨b, 2, none⟩ v0).setCell ⟨b, 3, none⟩ v1).setCell ⟨b, 4, none⟩ v2).setCell ⟨b, 5, none⟩ v3
def putL (w : World) (b : Nat) (v0 v1 v2 v3 : Value) : World := (((w.setCell ⟨b, 23, none⟩ v0).setCell ⟨b, 24, none⟩ v1).setCell ⟨b, 25, none⟩ v2).setCell ⟨b, 26, none⟩ v3
theorem putA_row (hb : w.heap[b]? = some (.cells (rvv x d) 54 (0, 0))) (y : Na.M.S) (a : Option Addr) (c : Nat) : (putA w b (.int .i64 y.p.i) (.int .i64 y.p.t) (.int .i64 y.base) (.slice a y.l.length c)).heap[b]? = some (.cells (rvv { x with a := y } { d with aa := a, ac := c }) 54 (0, 0)) :=
 heap_setCell_same _ b 5 _ _ _ (heap_setCell_same _ b 4 _ _ _ (heap_setCell_same _ b 3 _ _ _ (heap_setCell_same w b 2 _ _ _ hb)))
theorem putL_row (hb : w.heap[b]? = some (.cells (rvv x d) 54 (0, 0))) (y : Dl.X) (a : LA) : (putL w b (.int .i64 y.n) (.int .i64 y.base) (.slice a.ta y.td.length a.tc) (.slice a.va y.vs.length a.vc)).heap[b]? = some (.cells (rvv { x with l := y } { d with la := a }) 54 (0, 0)) :=
 heap_setCell_same _ b 26 _ _ _ (heap_setCell_same _ b 25 _ _ _ (heap_setCell_same _ b 24 _ _ _ (heap_setCell_same w b 23 _ _ _ hb)))
theorem putA_fr (w : World) (b : Nat) (v0 v1 v2 v3 : Value) : Fr w (· = b) (putA w b v0 v1 v2 v3) (· = b) := (((fr_one w b 2 v0).trans (fr_one _ b 3 v1)).trans (fr_one _ b 4 v2)).trans (fr_one _ b 5 v3)
theorem putL_fr (w : World) (b : Nat) (v0 v1 v2 v3 : Value) : Fr w (· = b) (putL w b v0 v1 v2 v3) (· = b) := (((fr_one w b 23 v0).trans (fr_one _ b 24 v1)).trans (fr_one _ b 25 v2)).trans (fr_one _ b 26 v3)
theorem setRow_fr (w : World) (b : Nat) (cs : Array Value) : Fr w (· = b) (w.setRow b cs) (· = b) := ⟨rfl, rfl, rfl, by simp, fun k _ hk => setRow_other _ _ _ _ hk, fun k h => .inl h⟩
theorem setRowR {cs : Array Value} (h : w.heap[b]? = some (.cells cs 54 (0, 0))) (ds : Array Value) : (w.setRow b ds).heap[b]? = some (.cells ds 54 (0, 0)) := setRow_heap _ _ cs _ 54 (0, 0) h
theorem sizeR (x : DR) (d : DA) : (prog.info? 54).map (·.size) = some (rvv x d).size := by rw [rvv_size]; kernel_rfl
structure DM (w : World) (x : DR) (d : DA) : Prop where
 a : XL vl w d.aa d.ac x.a.l
 al : ∀ q, blk d.aa q → q < w.heap.size
 p : Np.XX w d.pa d.pc x.p
 l : LL w x.l d.la
theorem DM.keep (h : DM w x d) (hb : Bl w w') : DM w' x d := ⟨h.a.keep hb, fun q hq => Nat.lt_of_lt_of_le (h.al q hq) hb.size, h.p.keep hb, h.l.keep hb⟩
theorem DM.zero (w : World) (n me : Int) : DM w (d0 n me) ⟨none, 0, none, 0, ⟨none, 0, none, 0⟩⟩   := ⟨XL.emp w, fun q hq => (by obtain ⟨_, _, e⟩ := hq; cases e), Np.XX.emp w rfl, LL.emp w n 0⟩
def dblk (d : DA) (q : Nat) : Prop := blk d.aa q ∨ blk d.pa q ∨ blk d.la.ta q ∨ blk d.la.va q
def DNew (w : World) (d d' : DA) : Prop := ∀ q, dblk d' q → dblk d q ∨ w.heap.size ≤ q
theorem DNew.refl (w : World) (d : DA) : DNew w d d := fun q hq => .inl hq
theorem DNew.trans {w w1 : World} {d d1 d2 : DA} (h : DNew w d d1) (k : DNew w1 d1 d2) (hs : w.heap.size ≤ w1.heap.size) : DNew w d d2 := fun q hq => by
 rcases k q hq with h1 | h1
 ·exact h q h1
 ·exact .inr (Nat.le_trans hs h1)
theorem DNew.low {w w1 : World} {d d1 : DA} (k : DNew w1 d d1) (hs : w.heap.size ≤ w1.heap.size) : DNew w d d1 := (DNew.refl w d).trans k hs
theorem DM.lt (h : DM w x d) : ∀ q, dblk d q → q < w.heap.size := fun q hq => by
 rcases hq with h1 | h1 | h1 | h1
 ·exact h.al q h1
 ·exact h.p.lt q h1
 ·exact h.l.lt q (.inl h1)
 ·exact h.l.lt q (.inr h1)
def NDn (w' : World) (v : Value) (m : Nat) (r : R) (w : World) (d : DA) : Prop := ∃ x' d', v = .agg (rvv x' d') ∧ DM w' x' d' ∧ Rl m r x' ∧ DNew w d d'
def NS (w : World) (u : Value) (w' : World) (l : List NT) : Prop := NO w (fun _ => False) u w' l
end
theorem fr_row {w w' : World} {g k : Nat} {o : Obj} (hf : Fr w (· = g) w' (· = g)) (h : w.heap[k]? = some o) (hk : k ≠ g) : w'.heap[k]? = some o := (hf.block k (Array.getElem?_eq_some_iff.1 h).1 hk).trans h
theorem fr_bel {w0 w w' : World} {B g : Nat} (h : Below B w0 w) (hf : Fr w (· = g) w' (· = g)) (hg : B ≤ g) (hB : B ≤ w.heap.size) : Below B w0 w' := h.trans (hf.below (fun k hk => by subst hk; exact hg) hB)
theorem setP {w : World} {b : Nat} {x : DR} {d : DA} (hb : w.heap[b]? = some (.cells (rvv x d) 54 (0, 0))) (a : Option Addr) (c : Nat) (y : Np.M.R) : ∃ w', (st32 ⟨b, 6, none⟩ (dvv a c y)).run prog w = .ok () w' ∧ w'.heap[b]? = some (.cells (rvv { x with p := y } { d with pa := a, pc := c }) 54 (0, 0)) ∧ Fr w (· = b) w' (· = b) := storeRp hb a c y
theorem setA {w : World} {b : Nat} {x : DR} {d : DA} (hb : w.heap[b]? = some (.cells (rvv x d) 54 (0, 0))) (y : Na.M.S) (a : Option Addr) (c : Nat) : ∃ w', (((w.setCell ⟨b, 2, none⟩ (.int .i64 y.p.i)).setCell ⟨b, 3, none⟩ (.int .i64 y.p.t)).setCell ⟨b, 4, none⟩ (.int .i64 y.base)).setCell ⟨b, 5, none⟩ (.slice a y.l.length c) = w' ∧ w'.heap[b]? = some (.cells (rvv { x with a := y } { d with aa := a, ac := c }) 54 (0, 0)) ∧ Fr w (· = b) w' (· = b) := ⟨_, rfl, putA_row hb y a c, putA_fr _ _ _ _ _ _⟩
theorem setL {w : World} {b : Nat} {x : DR} {d : DA} (hb : w.heap[b]? = some (.cells (rvv x d) 54 (0, 0))) (y : Dl.X) (a : LA) : ∃ w', (((w.setCell ⟨b, 23, none⟩ (.int .i64 y.n)).setCell ⟨b, 24, none⟩ (.int .i64 y.base)).setCell ⟨b, 25, none⟩ (.slice a.ta y.td.length a.tc)).setCell ⟨b, 26, none⟩ (.slice a.va y.vs.length a.vc) = w' ∧ w'.heap[b]? = some (.cells (rvv { x with l := y } { d with la := a }) 54 (0, 0)) ∧ Fr w (· = b) w' (· = b) := ⟨_, rfl, putL_row hb y a, putL_fr _ _ _ _ _ _⟩
theorem setR {w : World} {b : Nat} {cs : Array Value} (hb : w.heap[b]? = some (.cells cs 54 (0, 0))) (hz : cs.size = 27) (x : DR) (d : DA) : ∃ w', (stR ⟨b, 0, none⟩ (rvv x d)).run prog w = .ok () w' ∧ w'.heap[b]? = some (.cells (rvv x d) 54 (0, 0)) ∧ Fr w (· = b) w' (· = b) := ⟨_, storeR hz x d hb, setRowR hb _, setRow_fr _ _ _⟩
theorem alloc_setRow (w : World) (z cs : Array Value) (t : TypeId) : (w.alloc (.cells z t)).setRow w.heap.size cs = w.alloc (.cells cs t) := by
 unfold World.setRow World.alloc; congr 1; apply Array.ext
 ·simp
 ·intro i h1 h2; simp only [Array.getElem_modify, Array.getElem_push]; split
  ·next e => subst e; simp
  ·next e =>
   have h3 : i < w.heap.size := by simp at h1; omega
   simp [h3]
@[simp] theorem st32_new (w : World) (a : Option Addr) (c : Nat) (y : Np.M.R) : (st32 ⟨w.heap.size, 0, none⟩ (dvv a c y)).run prog (w.alloc (.cells Np.Z17 48)) = .ok () (w.alloc (.cells (dvv a c y) 48)) := by
 rw [Np.store32_row (cs := Np.Z17) rfl a c y (heap_alloc_last w _), alloc_setRow]
@[simp] theorem stR_new (w : World) (x : DR) (d : DA) : (stR ⟨w.heap.size, 0, none⟩ (rvv x d)).run prog (w.alloc (.cells Z27 54)) = .ok () (w.alloc (.cells (rvv x d) 54)) := by
 rw [storeR (cs := Z27) rfl x d (heap_alloc_last w _), alloc_setRow]
structure Md (lo hi : Nat) (w w' : World) : Prop where
 size : w.heap.size ≤ w'.heap.size
 block : ∀ k, k < w.heap.size → k < lo ∨ hi ≤ k → w'.heap[k]? = w.heap[k]?
theorem Md.refl (lo hi : Nat) (w : World) : Md lo hi w w := ⟨Nat.le_refl _, fun _ _ _ => rfl⟩
theorem Md.up {lo hi : Nat} {w w1 w2 : World} (h : Md lo hi w w1) (hb : Bl w1 w2) : Md lo hi w w2 := ⟨Nat.le_trans h.size hb.size, fun k hk hn => (hb.block k (Nat.lt_of_lt_of_le hk h.size)).trans (h.block k hk hn)⟩
theorem Md.fr {lo hi g : Nat} {w w1 w2 : World} (h : Md lo hi w w1) (hf : Fr w1 (· = g) w2 (· = g)) (h1 : lo ≤ g) (h2 : g < hi) : Md lo hi w w2 := ⟨Nat.le_trans h.size hf.size, fun k hk hn => (hf.block k (Nat.lt_of_lt_of_le hk h.size) (fun e => by omega)).trans (h.block k hk hn)⟩
theorem Md.xl {α : Type} {Y : Ly α} {lo hi : Nat} {w w' : World} {a : Option Addr} {c : Nat} {l : List α} (h : Md lo hi w w') (hx : XL Y w a c l) (hn : ∀ k, blk a k → k < lo ∨ hi ≤ k) : XL Y w' a c l := hx.keepBut fun k hk hk2 => h.block k hk (hn k hk2)
theorem Md.xx {lo hi : Nat} {w w' : World} {a : Option Addr} {c : Nat} {x : Np.M.R} (h : Md lo hi w w') (hx : Np.XX w a c x) (hn : ∀ k, blk a k → k < lo ∨ hi ≤ k) : Np.XX w' a c x := hx.keepBut (fun k hk hk2 => h.block k hk (hn k hk2)) h.size
theorem Md.ll {lo hi : Nat} {w w' : World} {x : Dl.X} {a : LA} (h : Md lo hi w w') (hx : LL w x a) (hn : ∀ k, blk a.ta k ∨ blk a.va k → k < lo ∨ hi ≤ k) : LL w' x a := ⟨h.xl hx.t fun k hk => hn k (.inl hk), h.xl hx.v fun k hk => hn k (.inr hk), fun q hq => Nat.lt_of_lt_of_le (hx.lt q hq) h.size⟩
theorem Md.dm {lo hi : Nat} {w w' : World} {x : DR} {d : DA} (h : Md lo hi w w') (hd : DM w x d) (hn : ∀ k, dblk d k → k < lo ∨ hi ≤ k) : DM w' x d := ⟨h.xl hd.a fun k hk => hn k (.inl hk), fun q hq => Nat.lt_of_lt_of_le (hd.al q hq) h.size, h.xx hd.p fun k hk => hn k (.inr (.inl hk)), h.ll hd.l fun k hk => hn k (hk.elim (fun h => .inr (.inr (.inl h))) (fun h => .inr (.inr (.inr h))))⟩
theorem resR {fn : Func} {p u : Tmp} (h : fn.results = #[.cell p 54, .tmp u]) (tmps : Array Value) (w : World) (g : Nat) (x : DR) (d : DA) (hp : tmps.getD p undef = .pointer (some ⟨g, 0, none⟩)) (hg : w.heap[g]? = some (.cells (rvv x d) 54 (0, 0))) :
  (results fn tmps).run prog w = .ok (.tuple #[.agg (rvv x d), tmps.getD u undef]) w := by
 have hp' : tmps[p]?.getD undef = .pointer (some ⟨g, 0, none⟩) := by simpa using hp
 rw [results_cell_tmp h]; simp [asAddr, hp', run_loadVar_row w g 54 54 (rvv x d) (0, 0) _ hg underlying54 rfl (sizeR x d)]
theorem resR1 {fn : Func} {p : Tmp} (h : fn.results = #[.cell p 54]) (tmps : Array Value) (w : World) (g : Nat) (x : DR) (d : DA) (hp : tmps.getD p undef = .pointer (some ⟨g, 0, none⟩)) (hg : w.heap[g]? = some (.cells (rvv x d) 54 (0, 0))) :
  (results fn tmps).run prog w = .ok (.agg (rvv x d)) w := results_cell_row h tmps w g 54 (rvv x d) (0, 0) _ hp hg underlying54 rfl (sizeR x d)
end Go.Proofs.YtgodnpngdbelhaaGreat.Dn
