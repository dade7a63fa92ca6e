/-
  The map of what is known of slots.
-/
import Derived.Test.YtgodnpngdbelhaaG02
import Derived.Test.YtgodnpngdbelhaaG01
import Derived.Maps.OwnSet
namespace Go.Proofs.Ytgodnpngdbelhaa.Nl
open Go.RowKit Go.Maps
set_option linter.unusedVariables false
open Go.Proofs.Ytgodnpngdbelhaa.M (E V)
open Go.Proofs.Ytgodnpngdbelhaa.Nl.M (W fup)

/-- What is known of a slot, as the map has it: told or not, its value, where the votes lie. -/
structure K where
  t : Bool
  v : ByteArray
  a : Option (Nat × Nat × Nat)
def svV : Option (Nat × Nat × Nat) → Value
  | none => .slice none 0 0
  | some (g, n, c) => .slice (some ⟨g, 0, none⟩) n c
def senc : Option (Nat × Nat × Nat) → DataW Unit
  | none => .agg []
  | some (g, n, c) => .agg [.lit (.int .i64 (g : Int)), .lit (.int .i64 (n : Int)), .lit (.int .i64 (c : Int))]
theorem senc_inj : ∀ {p q}, senc p = senc q → p = q
  | none, none, _ => rfl
  | none, some (g, n, c), h => by simp [senc] at h
  | some (g, n, c), none, h => by simp [senc] at h
  | some (g, n, c), some (g', n', c'), h => by
    simp only [senc, DataW.agg.injEq, List.cons.injEq, DataW.lit.injEq, Lit.int.injEq, and_true, true_and] at h
    obtain ⟨h1, h2, h3⟩ := h
    have : g = g' := by omega
    have : n = n' := by omega
    have : c = c' := by omega
    simp_all
abbrev kV (p : K) : Value := .agg #[.bool p.t, .string p.v, svV p.a]
def kenc (p : K) : DataW Unit := .agg [.lit (.bool p.t), .lit (.string p.v.data.toList), senc p.a]
theorem kenc_inj {p q : K} (h : kenc p = kenc q) : p = q := by
  obtain ⟨t, v, a⟩ := p
  obtain ⟨t', v', a'⟩ := q
  simp only [kenc, DataW.agg.injEq, List.cons.injEq, DataW.lit.injEq, Lit.bool.injEq, Lit.string.injEq, and_true] at h
  obtain ⟨rfl, h2, h3⟩ := h
  have hv : v = v' := by
    apply ByteArray.ext
    exact Array.ext' h2
  rw [hv, senc_inj h3]
def kR : Value → Option (DataW Unit × List MemPlace)
  | .agg ⟨[.bool t, .string s, .slice none 0 0]⟩ => some (kenc ⟨t, s, none⟩, [])
  | .agg ⟨[.bool t, .string s, .slice (some ⟨g, 0, none⟩) n c]⟩ => some (kenc ⟨t, s, some (g, n, c)⟩, [])
  | _ => none
theorem kR_mk : ∀ p, kR (kV p) = some (kenc p, [])
  | ⟨t, s, none⟩ => rfl
  | ⟨t, s, some (g, n, c)⟩ => rfl
theorem kR_shape {v : Value} {y : DataW Unit × List MemPlace} (h : kR v = some y) : ∃ p, v = kV p ∧ y = (kenc p, []) := by
  unfold kR at h
  split at h
  · rename_i t s; cases h; exact ⟨⟨t, s, none⟩, rfl, rfl⟩
  · rename_i t s g n c; cases h; exact ⟨⟨t, s, some (g, n, c)⟩, rfl, rfl⟩
  · cases h
theorem kR_inv {v : Value} {p : K} {ps : List MemPlace} (h : kR v = some (kenc p, ps)) : v = kV p := by
  obtain ⟨q, rfl, e⟩ := kR_shape h
  simp only [Prod.mk.injEq] at e
  rw [kenc_inj e.1]
theorem law3 : Keyed Try.prog 3 := int_keyed Try.underlying3
def k0 : K := ⟨false, ⟨#[]⟩, none⟩
theorem zero104 (w : World) : (zeroValue 104).run Try.prog w = .ok (kV k0) w := by kernel_rfl
/-- A map at block m that tells of each slot what is known. -/
def MI (w : World) (m n : Nat) (f : Int → Option K) : Prop := ∃ D : DataW Unit, w.ownsMap Try.prog 3 kR m n D ∧ ∀ k, D.atKey (.int .i64 k) (kenc k0) = kenc ((f k).getD k0) ∧ Maps.has D (.int .i64 k) = (f k).isSome
/-- Nothing has changed but the map. -/
structure MT (w : World) (m : Nat) (w' : World) : Prop where
  os : w'.os = w.os
  tape : w'.tape = w.tape
  output : w'.output = w.output
  size : w'.heap.size = w.heap.size
  block : ∀ k, k ≠ m → w'.heap[k]? = w.heap[k]?
theorem MT.of {w w' : World} {m : Nat} (h : w.mapTurned w' m) : MT w m w' := by
  obtain ⟨es, clock, es', clock', hb, rfl⟩ := h
  exact ⟨rfl, rfl, rfl, by simp [ChangeMaps.setBlock], fun k hk => ChangeMaps.heap_setBlock_other hb _ hk⟩
theorem MT.refl (w : World) (m : Nat) : MT w m w := ⟨rfl, rfl, rfl, rfl, fun _ _ => rfl⟩
theorem MT.trans {w w1 w2 : World} {m : Nat} (h : MT w m w1) (k : MT w1 m w2) : MT w m w2 := ⟨k.os.trans h.os, k.tape.trans h.tape, k.output.trans h.output, k.size.trans h.size, fun j hj => (k.block j hj).trans (h.block j hj)⟩
theorem MT.drew {w w1 : World} {m : Nat} (h : MT w m w1) : MT w m w1.drew := ⟨h.os, h.tape, h.output, h.size, h.block⟩
section
variable {w w' : World} {m n : Nat} {f : Int → Option K}
theorem MI.keep (h : MI w m n f) (hk : w'.heap[m]? = w.heap[m]?) : MI w' m n f := by
  obtain ⟨D, ⟨es, clock, hb, rest⟩, hD⟩ := h
  exact ⟨D, ⟨es, clock, hk.trans hb, rest⟩, hD⟩
theorem MI.lt (h : MI w m n f) : m < w.heap.size := by
  obtain ⟨D, h, _⟩ := h
  exact h.lt
theorem MI.ne (h : MI w m n f) {b : Nat} {cs : Array Value} {t : TypeId} {z : Nat × Nat} (hb : w.heap[b]? = some (.cells cs t z)) : b ≠ m := by
  obtain ⟨D, ⟨es, clock, hm, _⟩, _⟩ := h
  intro e
  subst e
  rw [hm] at hb
  cases hb
theorem MI.look (h : MI w m n f) (k : Int) (hk : (Lit.int .i64 k).wf = true) : (Instr.lookup 98 (.map (some m)) (.int .i64 k) false).run Try.prog w = .ok (kV ((f k).getD k0)) w := by
  obtain ⟨D, h, hD⟩ := h
  obtain ⟨v, ps, hrun, hv⟩ := h.lookup law3 Try.underlying98 (zero104 w) (zd := kenc k0) (zp := []) rfl (keyOf_int_mk Try.underlying3 hk)
  rw [(hD k).1] at hv
  rw [hrun, kR_inv hv]
theorem lit_ne {j k : Int} (h : j ≠ k) : (Lit.int .i64 j) ≠ (Lit.int .i64 k) := fun e => h (by cases e; rfl)
theorem MI.put (h : MI w m n f) (k : Int) (hk : (Lit.int .i64 k).wf = true) (p : K) (hn : n < maxLen) :
    ∃ w', (Instr.mapUpdate 98 (.map (some m)) (.int .i64 k) (kV p)).run Try.prog w = .ok () w' ∧ MI w' m (n + 1) (fup f k (some p)) ∧ MT w m w' := by
  obtain ⟨D, h, hD⟩ := h
  obtain ⟨w', hrun, h', ht⟩ := h.store law3 Try.underlying98 hn (keyOf_int_mk Try.underlying3 hk) (kR_mk p)
  refine ⟨w', hrun, ⟨_, h', fun j => ?_⟩, MT.of ht⟩
  unfold fup
  by_cases hj : j = k
  · subst hj
    rw [if_pos rfl, atKey_put_same h.isMap (law3.key (keyOf_int_mk Try.underlying3 hk)), Maps.has_put_same h.isMap (law3.key (keyOf_int_mk Try.underlying3 hk))]
    exact ⟨rfl, rfl⟩
  · rw [if_neg hj, atKey_put_other (lit_ne hj), Maps.has_put_other (lit_ne hj)]
    exact hD j
theorem MI.del (h : MI w m n f) (k : Int) (hk : (Lit.int .i64 k).wf = true) (ty : TypeId) :
    ∃ w', (Builtin.delete_ #[98, 3] ty #[.map (some m), .int .i64 k]).run Try.prog w = .ok (.tuple #[]) w' ∧ MI w' m n (fup f k none) ∧ MT w m w' := by
  obtain ⟨D, h, hD⟩ := h
  obtain ⟨w', hrun, h', ht⟩ := h.drop law3 Try.underlying98 (keyOf_int_mk Try.underlying3 hk) ty
  refine ⟨w', hrun, ⟨_, h', fun j => ?_⟩, MT.of ht⟩
  unfold fup
  by_cases hj : j = k
  · subst hj
    rw [if_pos rfl, atKey_del_same, Maps.has_del_same]
    exact ⟨rfl, rfl⟩
  · rw [if_neg hj, atKey_del_other (lit_ne hj), Maps.has_del_other (lit_ne hj)]
    exact hD j
theorem MI.made (w : World) : MI (w.alloc (.map #[] 0)) w.heap.size 0 (fun _ => none) := ⟨_, World.ownsMap_made _ _ _ _, fun _ => ⟨rfl, rfl⟩⟩
end
/-- How a vote that was heard lies. -/
def wl : Ly W := ⟨4, fun x => [.bool x.g, .int .i64 x.b.i, .int .i64 x.b.t, .string x.v], fun _ => rfl, fun x v h => by simp at h; rcases h with rfl | rfl | rfl | rfl <;> rfl, by decide⟩
abbrev wV (x : W) : Value := .agg #[.bool x.g, .int .i64 x.b.i, .int .i64 x.b.t, .string x.v]
/-- The block of what a slot's votes lie in. -/
def bk (f : Int → Option K) (k : Int) : Option Nat := match f k with
  | some p => p.a.map Prod.fst
  | none => none
theorem bk_some {f : Int → Option K} {k : Int} {p : K} (h : f k = some p) : bk f k = p.a.map Prod.fst := by unfold bk; rw [h]
theorem bk_none {f : Int → Option K} {k : Int} (h : f k = none) : bk f k = none := by unfold bk; rw [h]
theorem bk_fup_same (f : Int → Option K) (k : Int) (p : Option K) : bk (fup f k p) k = (match p with | some p => p.a.map Prod.fst | none => none) := by unfold bk; rw [M.fup_same]
theorem bk_fup_other {f : Int → Option K} {k j : Int} (p : Option K) (h : j ≠ k) : bk (fup f k p) j = bk f j := by unfold bk; rw [M.fup_other _ h]
/-- What is a learner's own: its block, its map's, those of the votes. -/
def fpl (b m : Nat) (f : Int → Option K) (k : Nat) : Prop := k = b ∨ k = m ∨ ∃ c, bk f c = some k
/-- A learner at block b. -/
structure LI (w : World) (base b m : Nat) (s : M.S) (f : Int → Option K) : Prop where
  row : w.heap[b]? = some (.cells #[.int .i64 s.n, .int .i64 s.base, .map (some m)] 100 (0, 0))
  mi : MI w m s.c f
  td : ∀ k v, s.td k = some v → f k = some ⟨true, v, none⟩
  un : ∀ k, s.td k = none → s.vs k = [] → f k = none
  vo : ∀ k, s.td k = none → s.vs k ≠ [] → ∃ g, f k = some ⟨false, ⟨#[]⟩, some (g, (s.vs k).length, (s.vs k).length)⟩ ∧ w.heap[g]? = some (.cells (wl.cells (s.vs k)).toArray 140 (0, 0)) ∧ base ≤ g
  ap : ∀ k j g, bk f k = some g → bk f j = some g → k = j
  lo : base ≤ b ∧ base ≤ m
theorem row3 {w : World} {k : Nat} {v0 v1 v2 : Value} {t : TypeId} (h : w.heap[k]? = some (.cells #[v0, v1, v2] t (0, 0))) :
    (w.cell? ⟨k, 0, none⟩ = some v0 ∧ w.cell? ⟨k, 1, none⟩ = some v1 ∧ w.cell? ⟨k, 2, none⟩ = some v2) ∧ ∀ j, w.frozen? ⟨k, j, none⟩ = false :=
  ⟨⟨by rw [cell_of_row w k 0 _ _ _ h]; rfl, by rw [cell_of_row w k 1 _ _ _ h]; rfl, by rw [cell_of_row w k 2 _ _ _ h]; rfl⟩, fun j => frozen_of_row w k j _ _ h⟩
section
variable {w w' : World} {base b m : Nat} {s : M.S} {f : Int → Option K}
theorem LI.lt (h : LI w base b m s f) : b < w.heap.size := (Array.getElem?_eq_some_iff.1 h.row).1
theorem LI.bm (h : LI w base b m s f) : b ≠ m := h.mi.ne h.row
theorem LI.bk (h : LI w base b m s f) {k : Int} {g : Nat} (hg : Ytgodnpngdbelhaa.Nl.bk f k = some g) : s.td k = none ∧ s.vs k ≠ [] ∧ f k = some ⟨false, ⟨#[]⟩, some (g, (s.vs k).length, (s.vs k).length)⟩ ∧ w.heap[g]? = some (.cells (wl.cells (s.vs k)).toArray 140 (0, 0)) ∧ base ≤ g := by
  cases ht : s.td k with
  | some v =>
    rw [bk_some (h.td k v ht)] at hg
    cases hg
  | none =>
    by_cases hv : s.vs k = []
    · rw [bk_none (h.un k ht hv)] at hg
      cases hg
    · obtain ⟨g', h1, h2, h3⟩ := h.vo k ht hv
      rw [bk_some h1] at hg
      cases hg
      exact ⟨rfl, hv, h1, h2, h3⟩
theorem LI.ne (h : LI w base b m s f) {k : Int} {g : Nat} (hg : Ytgodnpngdbelhaa.Nl.bk f k = some g) : g ≠ b ∧ g ≠ m := by
  obtain ⟨_, _, _, h4, _⟩ := h.bk hg
  refine ⟨fun e => ?_, h.mi.ne h4⟩
  subst e
  rw [h.row] at h4
  simp at h4
theorem LI.mine (h : LI w base b m s f) : ∀ k, fpl b m f k → base ≤ k ∧ k < w.heap.size := by
  rintro k (rfl | rfl | ⟨c, e⟩)
  · exact ⟨h.lo.1, h.lt⟩
  · exact ⟨h.lo.2, h.mi.lt⟩
  · obtain ⟨_, _, _, h4, h5⟩ := h.bk e
    exact ⟨h5, (Array.getElem?_eq_some_iff.1 h4).1⟩
theorem LI.keepBut (h : LI w base b m s f) (hb : ∀ k, k < w.heap.size → fpl b m f k → w'.heap[k]? = w.heap[k]?) : LI w' base b m s f :=
  ⟨(hb b h.lt (.inl rfl)).trans h.row, h.mi.keep (hb m h.mi.lt (.inr (.inl rfl))), h.td, h.un, fun k h1 h2 => by
    obtain ⟨g, e1, e2, e3⟩ := h.vo k h1 h2
    exact ⟨g, e1, (hb g (Array.getElem?_eq_some_iff.1 e2).1 (.inr (.inr ⟨k, bk_some e1⟩))).trans e2, e3⟩, h.ap, h.lo⟩
theorem LI.keep (h : LI w base b m s f) (hb : Below w.heap.size w w') : LI w' base b m s f := h.keepBut fun k hk _ => hb.block k hk
/-- What is looked up. -/
theorem LI.look (h : LI w base b m s f) (k : Int) (hk : (Lit.int .i64 k).wf = true) : (Instr.lookup 98 (.map (some m)) (.int .i64 k) false).run Try.prog w = .ok (kV ((f k).getD k0)) w := h.mi.look k hk
/-- Is it told? -/
theorem LI.told (h : LI w base b m s f) (k : Int) : ((f k).getD k0).t = (s.td k).isSome := by
  cases ht : s.td k with
  | some v => rw [h.td k v ht]; rfl
  | none =>
    by_cases hv : s.vs k = []
    · rw [h.un k ht hv]; rfl
    · obtain ⟨g, h1, _⟩ := h.vo k ht hv
      rw [h1]; rfl
theorem LI.val (h : LI w base b m s f) (k : Int) : ((f k).getD k0).v = (s.td k).getD ⟨#[]⟩ := by
  cases ht : s.td k with
  | some v => rw [h.td k v ht]; rfl
  | none =>
    by_cases hv : s.vs k = []
    · rw [h.un k ht hv]; rfl
    · obtain ⟨g, h1, _⟩ := h.vo k ht hv
      rw [h1]; rfl
/-- A slot is told. -/
theorem LI.tell (h : LI w base b m s f) {k : Int} {v : ByteArray} (hM : MI w' m (s.c + 1) (fup f k (some ⟨true, v, none⟩))) (hT : MT w m w') : LI w' base b m (M.tl s k v) (fup f k (some ⟨true, v, none⟩)) ∧ Fr w (fpl b m f) w' (fpl b m (fup f k (some ⟨true, v, none⟩))) := by
  have hother : ∀ j g, Ytgodnpngdbelhaa.Nl.bk (fup f k (some ⟨true, v, none⟩)) j = some g → Ytgodnpngdbelhaa.Nl.bk f j = some g ∧ j ≠ k := fun j g e => by
    by_cases hj : j = k
    · subst hj
      rw [bk_fup_same] at e
      cases e
    · rw [bk_fup_other _ hj] at e
      exact ⟨e, hj⟩
  refine ⟨⟨(hT.block b h.bm).trans h.row, hM, fun j u e => ?_, fun j e e2 => ?_, fun j e e2 => ?_, fun j i g e1 e2 => h.ap j i g (hother j g e1).1 (hother i g e2).1, h.lo⟩, ⟨hT.os, hT.tape, hT.output, by rw [hT.size]; exact Nat.le_refl _, fun j _ hF => hT.block j (fun e => hF (.inr (.inl e))), fun j hj => ?_⟩⟩
  · have e' : fup s.td k (some v) j = some u := e
    by_cases hj : j = k
    · subst hj
      rw [M.fup_same] at e' ⊢
      cases e'
      rfl
    · rw [M.fup_other _ hj] at e' ⊢
      exact h.td j u e'
  · have e' : fup s.td k (some v) j = none := e
    have e2' : fup s.vs k [] j = [] := e2
    by_cases hj : j = k
    · subst hj
      rw [M.fup_same] at e'
      cases e'
    · rw [M.fup_other _ hj] at e' e2' ⊢
      exact h.un j e' e2'
  · have e' : fup s.td k (some v) j = none := e
    have e2' : fup s.vs k [] j ≠ [] := e2
    show ∃ g, fup f k (some ⟨true, v, none⟩) j = some ⟨false, ⟨#[]⟩, some (g, (fup s.vs k [] j).length, (fup s.vs k [] j).length)⟩ ∧ w'.heap[g]? = some (.cells (wl.cells (fup s.vs k [] j)).toArray 140 (0, 0)) ∧ base ≤ g
    by_cases hj : j = k
    · subst hj
      rw [M.fup_same] at e'
      cases e'
    · rw [M.fup_other _ hj] at e' e2' ⊢
      rw [M.fup_other _ hj]
      obtain ⟨g, g1, g2, g3⟩ := h.vo j e' e2'
      exact ⟨g, g1, (hT.block g (h.ne (bk_some g1)).2).trans g2, g3⟩
  · rcases hj with rfl | rfl | ⟨c, e⟩
    · exact .inl (.inl rfl)
    · exact .inl (.inr (.inl rfl))
    · exact .inl (.inr (.inr ⟨c, (hother c _ e).1⟩))
/-- A row of votes is made. -/
theorem LI.make (h : LI w base b m s f) {k : Int} {g : Nat} {w1 : World} (hk : s.td k = none) (hv : s.vs k = []) (hb : Below w.heap.size w w1) (hg : w1.heap[g]? = some (.cells (wl.cells (List.replicate s.n.toNat M.w0)).toArray 140 (0, 0))) (hn : w.heap.size ≤ g) (h0 : base ≤ w.heap.size)
    (hM : MI w' m (s.c + 1) (fup f k (some ⟨false, ⟨#[]⟩, some (g, s.n.toNat, s.n.toNat)⟩))) (hT : MT w1 m w') (h1 : 1 ≤ s.n) :
    LI w' base b m (M.rws s k) (fup f k (some ⟨false, ⟨#[]⟩, some (g, s.n.toNat, s.n.toNat)⟩)) ∧ Fr w (fpl b m f) w' (fpl b m (fup f k (some ⟨false, ⟨#[]⟩, some (g, s.n.toNat, s.n.toNat)⟩))) := by
  have hr : M.rws s k = { s with vs := fup s.vs k (List.replicate s.n.toNat M.w0), c := s.c + 1 } := by unfold M.rws; rw [hv]; rfl
  have hX := h.keep hb
  have hlt := h.mine
  have hgm : g ≠ m := hX.mi.ne hg
  have hoth : ∀ j q, Ytgodnpngdbelhaa.Nl.bk (fup f k (some ⟨false, ⟨#[]⟩, some (g, s.n.toNat, s.n.toNat)⟩)) j = some q → (j = k ∧ q = g) ∨ (j ≠ k ∧ Ytgodnpngdbelhaa.Nl.bk f j = some q) := fun j q e => by
    by_cases hj : j = k
    · subst hj
      rw [bk_fup_same] at e
      simp at e
      exact .inl ⟨rfl, e.symm⟩
    · rw [bk_fup_other _ hj] at e
      exact .inr ⟨hj, e⟩
  have hold : ∀ j q, Ytgodnpngdbelhaa.Nl.bk f j = some q → q < w.heap.size := fun j q e => (hlt q (.inr (.inr ⟨j, e⟩))).2
  rw [hr]
  refine ⟨⟨(hT.block b h.bm).trans hX.row, hM, fun j u e => ?_, fun j e e2 => ?_, fun j e e2 => ?_, fun j i q e1 e2 => ?_, h.lo⟩, ⟨hT.os.trans hb.os, hT.tape.trans hb.tape, hT.output.trans hb.output, by rw [hT.size]; exact hb.size, fun j hj hF => (hT.block j (fun e => hF (.inr (.inl e)))).trans (hb.block j hj), fun j hj => ?_⟩⟩
  · have hj : j ≠ k := fun e2 => by
      subst e2
      have e' : s.td j = some u := e
      rw [hk] at e'
      cases e'
    rw [M.fup_other _ hj]
    exact h.td j u e
  · have e2' : fup s.vs k (List.replicate s.n.toNat M.w0) j = [] := e2
    by_cases hj : j = k
    · subst hj
      rw [M.fup_same] at e2'
      have := congrArg List.length e2'
      simp at this
      omega
    · rw [M.fup_other _ hj] at e2' ⊢
      exact h.un j e e2'
  · have e2' : fup s.vs k (List.replicate s.n.toNat M.w0) j ≠ [] := e2
    show ∃ q, fup f k (some ⟨false, ⟨#[]⟩, some (g, s.n.toNat, s.n.toNat)⟩) j = some ⟨false, ⟨#[]⟩, some (q, (fup s.vs k (List.replicate s.n.toNat M.w0) j).length, (fup s.vs k (List.replicate s.n.toNat M.w0) j).length)⟩ ∧ w'.heap[q]? = some (.cells (wl.cells (fup s.vs k (List.replicate s.n.toNat M.w0) j)).toArray 140 (0, 0)) ∧ base ≤ q
    by_cases hj : j = k
    · subst hj
      rw [M.fup_same, M.fup_same, List.length_replicate]
      exact ⟨g, rfl, (hT.block g hgm).trans hg, by omega⟩
    · rw [M.fup_other _ hj] at e2' ⊢
      rw [M.fup_other _ hj]
      obtain ⟨q, g1, g2, g3⟩ := hX.vo j e e2'
      exact ⟨q, g1, (hT.block q (h.ne (bk_some g1)).2).trans g2, g3⟩
  · rcases hoth j q e1 with ⟨a1, a2⟩ | ⟨a1, a2⟩ <;> rcases hoth i q e2 with ⟨b1, b2⟩ | ⟨b1, b2⟩
    · rw [a1, b1]
    · have := hold _ _ b2; omega
    · have := hold _ _ a2; omega
    · exact h.ap j i q a2 b2
  · rcases hj with rfl | rfl | ⟨c, e⟩
    · exact .inl (.inl rfl)
    · exact .inl (.inr (.inl rfl))
    · rcases hoth c j e with ⟨_, rfl⟩ | ⟨_, e⟩
      · exact .inr hn
      · exact .inl (.inr (.inr ⟨c, e⟩))
/-- A row of votes is another one. -/
theorem LI.rowed (h : LI w base b m s f) {k : Int} {g : Nat} {l : List W} (hk : Ytgodnpngdbelhaa.Nl.bk f k = some g) (hl : l.length = (s.vs k).length) (hg : w'.heap[g]? = some (.cells (wl.cells l).toArray 140 (0, 0))) (hs : w.heap.size ≤ w'.heap.size) (ho : w'.os = w.os) (ht : w'.tape = w.tape) (hu : w'.output = w.output) (hb : ∀ j, j < w.heap.size → j ≠ g → w'.heap[j]? = w.heap[j]?) :
    LI w' base b m (M.sv s k l) f ∧ Fr w (fpl b m f) w' (fpl b m f) := by
  obtain ⟨t1, t2, t3, t4, t5⟩ := h.bk hk
  obtain ⟨n1, n2⟩ := h.ne hk
  refine ⟨⟨(hb b h.lt n1.symm).trans h.row, h.mi.keep (hb m h.mi.lt n2.symm), h.td, fun j e e2 => ?_, fun j e e2 => ?_, h.ap, h.lo⟩, ⟨ho, ht, hu, hs, fun j hj hF => hb j hj (fun e => hF (.inr (.inr ⟨k, by rw [e]; exact hk⟩))), fun j hj => .inl hj⟩⟩
  · have e2' : fup s.vs k l j = [] := e2
    by_cases hj : j = k
    · subst hj
      rw [M.fup_same] at e2'
      rw [e2'] at hl
      exact absurd (List.length_eq_zero_iff.1 hl.symm) t2
    · rw [M.fup_other _ hj] at e2'
      exact h.un j e e2'
  · have e2' : fup s.vs k l j ≠ [] := e2
    show ∃ q, f j = some ⟨false, ⟨#[]⟩, some (q, (fup s.vs k l j).length, (fup s.vs k l j).length)⟩ ∧ w'.heap[q]? = some (.cells (wl.cells (fup s.vs k l j)).toArray 140 (0, 0)) ∧ base ≤ q
    by_cases hj : j = k
    · subst hj
      rw [M.fup_same, hl]
      exact ⟨g, t3, hg, t5⟩
    · rw [M.fup_other _ hj] at e2' ⊢
      obtain ⟨q, g1, g2, g3⟩ := h.vo j e e2'
      have hq : q ≠ g := fun e3 => hj (h.ap j k g (by rw [bk_some g1, e3]; rfl) hk)
      exact ⟨q, g1, (hb q (Array.getElem?_eq_some_iff.1 g2).1 hq).trans g2, g3⟩
/-- Without what is told below a base. -/
def cutf (f : Int → Option K) (k j : Int) : Int → Option K := fun i => if k ≤ i ∧ i < j then none else f i
theorem cutf_nil (f : Int → Option K) (k : Int) : cutf f k k = f := by
  funext i
  unfold cutf
  rw [if_neg (by omega)]
theorem cutf_step (f : Int → Option K) {k j : Int} (h : k ≤ j) : fup (cutf f k j) j none = cutf f k (j + 1) := by
  funext i
  unfold cutf fup
  show (if i = j then none else (if k ≤ i ∧ i < j then none else f i)) = (if k ≤ i ∧ i < j + 1 then none else f i)
  by_cases hi : i = j
  · subst hi
    rw [if_pos rfl, if_pos (by omega)]
  · rw [if_neg hi]
    by_cases h1 : k ≤ i ∧ i < j
    · rw [if_pos h1, if_pos (by omega)]
    · rw [if_neg h1, if_neg (by omega)]
theorem LI.trim (h : LI w base b m s f) (ok : M.Ok s) (u : Int) {w1 : World} (hr : w1.heap[b]? = some (.cells #[.int .i64 s.n, .int .i64 (M.tb s u), .map (some m)] 100 (0, 0))) (ho : w1.os = w.os) (ht : w1.tape = w.tape) (hu : w1.output = w.output) (hs : w.heap.size ≤ w1.heap.size) (hb : ∀ j, j < w.heap.size → j ≠ b → w1.heap[j]? = w.heap[j]?)
    (hM : MI w' m s.c (cutf f s.base (M.tb s u))) (hT : MT w1 m w') : LI w' base b m (M.tr s u) (cutf f s.base (M.tb s u)) ∧ Fr w (fpl b m f) w' (fpl b m (cutf f s.base (M.tb s u))) := by
  obtain ⟨n1, n2, n3, n4⟩ := ok.nx
  have hB := ok.base
  have hle : s.base ≤ M.tb s u ∧ M.tb s u ≤ M.nx s := by unfold M.tb; omega
  have hsm : ∀ j g, Ytgodnpngdbelhaa.Nl.bk (cutf f s.base (M.tb s u)) j = some g → Ytgodnpngdbelhaa.Nl.bk f j = some g := fun j g e => by
    unfold Ytgodnpngdbelhaa.Nl.bk cutf at e
    by_cases hj : s.base ≤ j ∧ j < M.tb s u
    · rw [if_pos hj] at e
      cases e
    · rw [if_neg hj] at e
      exact e
  refine ⟨⟨(hT.block b h.bm).trans hr, hM, fun j v e => ?_, fun j e e2 => ?_, fun j e e2 => ?_, fun j i g e1 e2 => h.ap j i g (hsm j g e1) (hsm i g e2), h.lo⟩, ⟨hT.os.trans ho, hT.tape.trans ht, hT.output.trans hu, by rw [hT.size]; exact hs, fun j hj hF => (hT.block j (fun e => hF (.inr (.inl e)))).trans (hb j hj (fun e => hF (.inl e))), fun j hj => ?_⟩⟩
  · have e' : (if j < M.tb s u then none else s.td j) = some v := e
    split at e'
    · cases e'
    · unfold cutf
      rw [if_neg (by omega)]
      exact h.td j v e'
  · have e' : (if j < M.tb s u then none else s.td j) = none := e
    unfold cutf
    by_cases hj : s.base ≤ j ∧ j < M.tb s u
    · rw [if_pos hj]
    · rw [if_neg hj]
      have ht : s.td j = none := by
        split at e'
        · cases hq : s.td j with
          | none => rfl
          | some v =>
            have := (ok.td j v hq).1
            omega
        · exact e'
      exact h.un j ht e2
  · have e' : (if j < M.tb s u then none else s.td j) = none := e
    have hj : ¬ (s.base ≤ j ∧ j < M.tb s u) := fun hj => e2 (ok.vs j (n1 j hj.1 (by omega)))
    have ht : s.td j = none := by
      split at e'
      · cases hq : s.td j with
        | none => rfl
        | some v =>
          have := (ok.td j v hq).1
          omega
      · exact e'
    unfold cutf
    rw [if_neg hj]
    obtain ⟨g, g1, g2, g3⟩ := h.vo j ht e2
    obtain ⟨m1, m2⟩ := h.ne (bk_some g1)
    exact ⟨g, g1, (hT.block g m2).trans ((hb g (Array.getElem?_eq_some_iff.1 g2).1 m1).trans g2), g3⟩
  · rcases hj with rfl | rfl | ⟨c, e⟩
    · exact .inl (.inl rfl)
    · exact .inl (.inr (.inl rfl))
    · exact .inl (.inr (.inr ⟨c, hsm c _ e⟩))
end
end Go.Proofs.Ytgodnpngdbelhaa.Nl
namespace Go.Proofs.Ytgodnpngdbelhaa.Nl
open Go.RowKit Go.Maps
set_option linter.unusedVariables false
open Go.Proofs.Ytgodnpngdbelhaa.M (E V)
open Go.Proofs.Ytgodnpngdbelhaa.Nl.M (W fup)

theorem field104a (t : Bool) (v : ByteArray) (a : Value) (w : World) : (Instr.field 104 (.agg #[.bool t, .string v, a]) 0).run Try.prog w = .ok (.bool t) w := by kernel_rfl
theorem field104b (t : Bool) (v : ByteArray) (a : Value) (w : World) : (Instr.field 104 (.agg #[.bool t, .string v, a]) 1).run Try.prog w = .ok (.string v) w := by kernel_rfl
theorem field104c (t : Bool) (v : ByteArray) (a : Value) (w : World) : (Instr.field 104 (.agg #[.bool t, .string v, a]) 2).run Try.prog w = .ok a w := by kernel_rfl
theorem wf_small {k : Int} (h0 : 0 ≤ k) (h1 : k ≤ 4096) : (Lit.int .i64 k).wf = true := by
  have e1 : IntKind.i64.min = -9223372036854775808 := rfl
  have e2 : IntKind.i64.max = 9223372036854775807 := rfl
  simp only [Lit.wf, e1, e2, Bool.and_eq_true, decide_eq_true_eq]
  omega
/-- What New leaves. -/
def NewOut (w : World) (n : Int) (e : Ending) (w' : World) : Prop :=
  (M.nde n = false ∧ e = .returned (.pointer none) ∧ w' = w) ∨ (M.nde n = true ∧ ∃ b m, e = .returned (.pointer (some ⟨b, 0, none⟩)) ∧ LI w' w.heap.size b m (M.s0 n) (fun _ => none) ∧ Below w.heap.size w w')
set_option maxHeartbeats 400000 in
theorem new_any (n : Int) (w : World) : Calls Try.prog 44 #[.int .i64 n] w (NewOut w n) := by
  by_cases h0 : n < 1
  · have HN : Hid (M.nde n = false) := Hid_of (by unfold M.nde; simp; omega)
    have d0 : decide (n < 1) = true := decide_eq_true h0
    clear h0
    go_enter Try.func44, Try.ntmps44
    go_wp2
    go_ret
    exact .inl ⟨HN.out, rfl, rfl⟩
  · have d0 : decide (n < 1) = false := decide_eq_false h0
    by_cases h1 : 7 < n
    · have HN : Hid (M.nde n = false) := Hid_of (by unfold M.nde; simp; omega)
      have d1 : decide (7 < n) = true := decide_eq_true h1
      clear h0 h1
      go_enter Try.func44, Try.ntmps44
      go_wp2
      go_ret
      exact .inl ⟨HN.out, rfl, rfl⟩
    · have HN : Hid (M.nde n = true) := Hid_of (by unfold M.nde; simp; omega)
      have d1 : decide (7 < n) = false := decide_eq_false h1
      clear h0 h1
      have hmm := @run_makeMap Try.prog
      have hb1 : Below w.heap.size w ((w.alloc (.map #[] 0)).alloc (.cells #[.int .i64 n, .int .i64 0, .map (some w.heap.size)] 100)) := (bel1 w (.map #[] 0)).alloc (by simp) _
      have hh := heap_alloc2_old w (.map #[] 0) (.cells #[.int .i64 n, .int .i64 0, .map (some w.heap.size)] 100)
      have hn := heap_alloc2_new w (.map #[] 0) (.cells #[.int .i64 n, .int .i64 0, .map (some w.heap.size)] 100)
      have HK : Hid (NewOut w n (.returned (.pointer (some ⟨w.heap.size + 1, 0, none⟩))) ((w.alloc (.map #[] 0)).alloc (.cells #[.int .i64 n, .int .i64 0, .map (some w.heap.size)] 100))) := by
        refine .inr ⟨HN.out, w.heap.size + 1, w.heap.size, rfl, ⟨hn, (MI.made w).keep ?_, fun k v e => (by cases e), fun _ _ _ => rfl, fun k _ e => absurd rfl e, fun k j g e => (by cases e), ⟨by omega, Nat.le_refl _⟩⟩, hb1⟩
        rw [hh]
        exact (heap_alloc_last w _).symm
      clear hb1 hh hn HN
      go_enter Try.func44, Try.ntmps44
      go_wp2
      go_ret
      exact HK.out
section
variable {w : World} {base b m : Nat} {s : M.S} {f : Int → Option K}
theorem base_any (h : LI w base b m s f) : Calls Try.prog 46 #[.pointer (some ⟨b, 0, none⟩)] w fun e w' => e = .returned (.int .i64 s.base) ∧ w' = w := by
  obtain ⟨⟨c0, c1, c2⟩, _⟩ := row3 h.row
  clear h
  go_enter Try.func46, Try.ntmps46
  go_wp2
  go_ret
  exact ⟨rfl, rfl⟩
set_option maxHeartbeats 400000 in
theorem next_any (h : LI w base b m s f) (ok : M.Ok s) : Calls Try.prog 47 #[.pointer (some ⟨b, 0, none⟩)] w fun e w' => e = .returned (.int .i64 (M.nx s)) ∧ w' = w := by
  obtain ⟨⟨c0, c1, c2⟩, _⟩ := row3 h.row
  obtain ⟨n1, n2, n3, n4⟩ := ok.nx
  have hb := ok.base
  have H := Hid_of h
  have N1 := Hid_of n1
  have N2 := Hid_of n2
  have NB : Hid (∃ z, z = s.base) := ⟨_, rfl⟩
  generalize M.nx s = N at *
  clear h ok n1 n2
  go_enter Try.func47, Try.ntmps47
  go_wp2
  go_loopw [3] (fun i wr => ∃ k : Int, s.base ≤ k ∧ k ≤ N ∧ i = .int .i64 k ∧ wr = w) (fun i _ => (N - intOf i).toNat)
  case atStart => exact ⟨s.base, by omega, by omega, rfl, rfl⟩
  case round =>
    obtain ⟨k, hk1, hk2, rfl, rfl⟩ := hrel
    have hlk := H.out.look k (wf_small (by omega) (by omega))
    have ht := H.out.told k
    obtain ⟨⟨t, v, a⟩, hp⟩ : ∃ p, (f k).getD k0 = p := ⟨_, rfl⟩
    rw [hp] at hlk ht
    replace hlk : (Instr.lookup 98 (.map (some m)) (.int .i64 k) false).run Try.prog wr = .ok (.agg #[.bool t, .string v, svV a]) wr := hlk
    generalize svV a = sa at *
    have fa := field104a t v sa
    by_cases hlt : k < N
    · rw [N1.out k hk1 hlt] at ht
      simp only at ht
      subst ht
      clear hp
      go_wp2
      go_roundw
      case rel => exact ⟨k + 1, by omega, by omega, by go_num, trivial⟩
      case measure => simp [intOf]; omega
    · obtain rfl : k = N := by omega
      rw [N2.out] at ht
      simp only [Option.isSome_none] at ht
      subst ht
      clear hp
      go_wp2
      go_ret
      exact ⟨rfl, rfl⟩
set_option maxHeartbeats 400000 in
theorem mayTell_any (h : LI w base b m s f) (k : Int) (hk : (Lit.int .i64 k).wf = true) (x : ByteArray) : Calls Try.prog 86 #[.pointer (some ⟨b, 0, none⟩), .int .i64 k, .string x] w fun e w' => e = .returned (.bool (M.may s k x)) ∧ w' = w := by
  have hlk := h.look k hk
  have ht := h.told k
  obtain ⟨⟨c0, c1, c2⟩, _⟩ := row3 h.row
  obtain ⟨⟨t, v, a⟩, hp⟩ : ∃ p, (f k).getD k0 = p := ⟨_, rfl⟩
  rw [hp] at hlk ht
  replace hlk : (Instr.lookup 98 (.map (some m)) (.int .i64 k) false).run Try.prog w = .ok (.agg #[.bool t, .string v, svV a]) w := hlk
  generalize svV a = sa at *
  have fa := field104a t v sa
  simp only at ht
  have HM : Hid (M.may s k x = (decide (s.base ≤ k) && (decide (k < 1024) && (decide (x.size ≤ 4096) && !(s.td k).isSome)))) := Hid_of rfl
  rw [HM.out, ← ht]
  clear h hp HM ht
  by_cases h0 : s.base ≤ k
  · have d0 : decide (s.base ≤ k) = true := decide_eq_true h0
    rw [d0]
    by_cases h1 : k < 1024
    · have d1 : decide (k < 1024) = true := decide_eq_true h1
      rw [d1]
      by_cases h2 : x.size ≤ 4096
      · have d2 : decide ((x.size : Int) ≤ (4096 : Int)) = true := decide_eq_true (by omega)
        rw [decide_eq_true h2]
        clear h0 h1 h2
        cases t with
        | false =>
          go_enter Try.func86, Try.ntmps86
          go_wp2
          go_ret
          exact ⟨rfl, rfl⟩
        | true =>
          go_enter Try.func86, Try.ntmps86
          go_wp2
          go_ret
          exact ⟨rfl, rfl⟩
      · have d2 : decide ((x.size : Int) ≤ (4096 : Int)) = false := decide_eq_false (by omega)
        rw [decide_eq_false h2]
        clear h0 h1 h2
        go_enter Try.func86, Try.ntmps86
        go_wp2
        go_ret
        exact ⟨rfl, rfl⟩
    · have d1 : decide (k < 1024) = false := decide_eq_false h1
      rw [d1]
      clear h0 h1
      go_enter Try.func86, Try.ntmps86
      go_wp2
      go_ret
      exact ⟨rfl, rfl⟩
  · have d0 : decide (s.base ≤ k) = false := decide_eq_false h0
    rw [d0]
    clear h0
    go_enter Try.func86, Try.ntmps86
    go_wp2
    go_ret
    exact ⟨rfl, rfl⟩
end
end Go.Proofs.Ytgodnpngdbelhaa.Nl
namespace Go.Proofs.Ytgodnpngdbelhaa.Nl
open Go.RowKit Go.Maps
set_option linter.unusedVariables false
open Go.Proofs.Ytgodnpngdbelhaa.M (E V)
open Go.Proofs.Ytgodnpngdbelhaa.Nl.M (W fup)

section
variable {w : World} {base b m : Nat} {s : M.S} {f : Int → Option K}
/-- What Tell leaves. -/
def TlOut (w : World) (base b m : Nat) (s : M.S) (f : Int → Option K) (k : Int) (v : ByteArray) (e : Ending) (w' : World) : Prop := ∃ f', e = .returned (.bool (M.may s k v)) ∧ LI w' base b m (M.ts s k v) f' ∧ Fr w (fpl b m f) w' (fpl b m f')
set_option maxRecDepth 100000 in
set_option maxHeartbeats 1000000 in
theorem tell_any (h : LI w base b m s f) (ok : M.Ok s) (k : Int) (hk : (Lit.int .i64 k).wf = true) (v : ByteArray) (hc : s.c ≤ 900000) : Calls Try.prog 75 #[.pointer (some ⟨b, 0, none⟩), .int .i64 k, .string v] w (TlOut w base b m s f k v) := by
  have cm := mayTell_any h k hk v
  cases hm : M.may s k v with
  | false =>
    rw [hm] at cm
    have HQ : Hid (TlOut w base b m s f k v (.returned (.bool false)) w) := ⟨f, by rw [hm], by unfold M.ts; rw [hm]; exact h, Fr.refl _ _⟩
    clear h hm
    go_enter Try.func75, Try.ntmps75
    go_wp2_with fail
    refine cm.mono ?_
    rintro e w1 ⟨rfl, rfl⟩
    go_wp2
    go_ret
    exact HQ.out
  | true =>
    rw [hm] at cm
    obtain ⟨m1, m2, m3, m4⟩ := M.may_yes hm
    have cc := fun w1 => sclone_any v w1 (by omega)
    have HP : Hid (∀ w1, Below w.drew.heap.size w.drew w1 → ∃ w2, (Instr.mapUpdate 98 (.map (some m)) (.int .i64 k) (.agg #[.bool true, .string v, .slice none 0 0])).run Try.prog w1 = .ok () w2 ∧ w2.heap[b]? = some (.cells #[.int .i64 s.n, .int .i64 s.base, .map (some m)] 100 (0, 0)) ∧ TlOut w base b m s f k v (.returned (.bool true)) w2) := by
      intro w1 hb1
      have hB : Below w.heap.size w w1 := Below.trans ((Below.refl _ _).drew) hb1
      have h1 := h.keep hB
      obtain ⟨w2, hrun, hmi, hmt⟩ := h1.mi.put k hk ⟨true, v, none⟩ (by unfold maxLen; omega)
      obtain ⟨h2, h3⟩ := h1.tell hmi hmt
      exact ⟨w2, hrun, h2.row, ⟨_, by rw [hm], by unfold M.ts; rw [hm]; exact h2, (Fr.ofBelow hB).trans h3⟩⟩
    have HI : Hid (w.drew.heap[b]? = some (.cells #[.int .i64 s.n, .int .i64 s.base, .map (some m)] 100 (0, 0))) := h.row
    have HS : Hid (∀ wq : World, wq.heap[b]? = some (.cells #[.int .i64 s.n, .int .i64 s.base, .map (some m)] 100 (0, 0)) → (wq.cell? ⟨b, 0, none⟩ = some (.int .i64 s.n) ∧ wq.cell? ⟨b, 2, none⟩ = some (.map (some m)))) := fun wq hq => ⟨(row3 hq).1.1, (row3 hq).1.2.2⟩
    clear h hm ok hc hk m1 m2 m3 m4
    go_enter Try.func75, Try.ntmps75
    go_wp2_with fail
    refine cm.mono ?_
    rintro e w1 ⟨rfl, rfl⟩
    clear cm
    go_wp2_with fail
    refine wp_region_held_drew (S := fun wq => wq.heap[b]? = some (.cells #[.int .i64 s.n, .int .i64 s.base, .map (some m)] 100 (0, 0))) (by kernel_rfl) HI.out (fun hHeld => ?_)
    refine Tm 0 ?p0a ?v0a hHeld ?r0a
    refine Tm 1 ?p1a ?v1a hHeld ?r1a
    refine Tm 2 ?p2a ?v2a hHeld ?r2a
    refine Tk 3 ?p3a ?v3a ?y3a hHeld ?r3a
    case y3a => intro wq hq; obtain ⟨a0, a2⟩ := HS.out wq hq; go_simp; try with_reducible rfl
    refine Tm 4 ?p4a ?v4a hHeld ?r4a
    refine Tm 5 ?p5a ?v5a hHeld ?r5a
    simp only [Act.put, Pa, Pb, Pc]
    refine Rd 6 ?p6a ?s6a
    intro K hK
    go_simp
    refine (cc _).mono ?_
    rintro e w1 ⟨rfl, hb1⟩
    have hs1 := bel_row hHeld hb1
    obtain ⟨w2, hput, hrow2, hq2⟩ := HP.out w1 hb1
    have HQ := Hid_of hq2
    clear hq2 hb1
    refine hK.out _ _ hs1 (fun hHeld => ?_)
    clear hK K
    refine Tm 7 ?p7a_6 ?v7a_6 hHeld ?r7a_6
    simp only [Act.put, Pa, Pb, Pc]
    refine Rd 8 ?p8a_6 ?s8a_6
    intro K hK
    go_simp
    refine hK.out _ _ hrow2 (fun hHeld => ?_)
    clear hK K
    refine wpAnyH_done (by kernel_rfl) ?_ _
    go_wp2
    go_ret
    exact HQ.out
theorem hi123 : Try.prog.info? 140 = some Try.t140 := by kernel_rfl
theorem rep_cells : ∀ n, wl.cells (List.replicate n M.w0) = (List.range (n * 4)).map (fun i => (#[Value.bool false, Value.int .i64 0, Value.int .i64 0, Value.string ⟨#[]⟩])[i % 4]!)
  | 0 => rfl
  | n + 1 => by
    rw [List.replicate_succ', Ly.app, rep_cells n, show (n + 1) * 4 = n * 4 + 1 + 1 + 1 + 1 by omega, List.range_succ, List.range_succ, List.range_succ, List.range_succ, List.map_append, List.map_append, List.map_append, List.map_append, List.append_assoc, List.append_assoc, List.append_assoc]
    have e1 : n * 4 % 4 = 0 := by omega
    have e2 : (n * 4 + 1) % 4 = 1 := by omega
    have e3 : (n * 4 + 1 + 1) % 4 = 2 := by omega
    have e4 : (n * 4 + 1 + 1 + 1) % 4 = 3 := by omega
    simp only [List.map_cons, List.map_nil, e1, e2, e3, e4]
    rfl
theorem made (n : Nat) : madeCells (Value.agg #[.bool false, .int .i64 0, .int .i64 0, .string ⟨#[]⟩]).cells (n * 4) = (wl.cells (List.replicate n M.w0)).toArray := by
  rw [rep_cells]
  apply Array.ext'
  unfold madeCells
  rw [Array.toList_map, Array.toList_range]
  rfl
theorem run_mk (n : Nat) (hn : n ≤ 7) (w : World) : (Instr.makeSlice 102 (.int .i64 (n : Int)) (.int .i64 (n : Int))).run Try.prog w = .ok (.slice (some ⟨w.heap.size, 0, none⟩) n n) (w.alloc (.cells (wl.cells (List.replicate n M.w0)).toArray 140)) := by
  have h := run_make (P := Try.prog) w 102 140 Try.t140 (.agg #[.bool false, .int .i64 0, .int .i64 0, .string ⟨#[]⟩]) Try.underlying102 hi123 rfl .i64 .i64 (n : Int) (n : Int) (by omega) (by omega) (by show (40 : Int) * _ ≤ _; omega) (by omega)
  rw [show Try.t140.size = 4 from rfl, Int.toNat_natCast, made] at h
  exact h
/-- What votes leaves. -/
def VtOut (w : World) (base b m : Nat) (s : M.S) (f : Int → Option K) (k : Int) (e : Ending) (w' : World) : Prop := ∃ f' g, e = .returned (.slice (some ⟨g, 0, none⟩) s.n.toNat s.n.toNat) ∧ bk f' k = some g ∧ LI w' base b m (M.rws s k) f' ∧ Fr w (fpl b m f) w' (fpl b m f')
set_option maxRecDepth 100000 in
set_option maxHeartbeats 1000000 in
theorem votes_any (h : LI w base b m s f) (ok : M.Ok s) (k : Int) (hk : (Lit.int .i64 k).wf = true) (ht : s.td k = none) (hc : s.c ≤ 900000) : Calls Try.prog 87 #[.pointer (some ⟨b, 0, none⟩), .int .i64 k] w (VtOut w base b m s f k) := by
  obtain ⟨⟨c0, c1, c2⟩, _⟩ := row3 h.row
  have hlk := h.look k hk
  have hN := ok.n
  have hnn : ((s.n.toNat : Nat) : Int) = s.n := by omega
  by_cases hv : s.vs k = []
  · rw [h.un k ht hv] at hlk
    replace hlk : (Instr.lookup 98 (.map (some m)) (.int .i64 k) false).run Try.prog w = .ok (.agg #[.bool false, .string ⟨#[]⟩, .slice none 0 0]) w := hlk
    have fc := field104c false ⟨#[]⟩ (.slice none 0 0)
    have HP : Hid (∀ w1, Below w.heap.size w w1 → ∀ g, w.heap.size ≤ g → w1.heap[g]? = some (.cells (wl.cells (List.replicate s.n.toNat M.w0)).toArray 140 (0, 0)) → ∃ w2, (Instr.mapUpdate 98 (.map (some m)) (.int .i64 k) (.agg #[.bool false, .string ⟨#[]⟩, .slice (some ⟨g, 0, none⟩) s.n.toNat s.n.toNat])).run Try.prog w1 = .ok () w2 ∧ w2.heap[b]? = some (.cells #[.int .i64 s.n, .int .i64 s.base, .map (some m)] 100 (0, 0)) ∧ (Instr.lookup 98 (.map (some m)) (.int .i64 k) false).run Try.prog w2 = .ok (.agg #[.bool false, .string ⟨#[]⟩, .slice (some ⟨g, 0, none⟩) s.n.toNat s.n.toNat]) w2 ∧ VtOut w base b m s f k (.returned (.slice (some ⟨g, 0, none⟩) s.n.toNat s.n.toNat)) w2) := by
      intro w1 hb1 g hg hr1
      have h1 := h.keep hb1
      obtain ⟨w2, hrun, hmi, hmt⟩ := h1.mi.put k hk ⟨false, ⟨#[]⟩, some (g, s.n.toNat, s.n.toNat)⟩ (by unfold maxLen; omega)
      obtain ⟨h2, h3⟩ := h.make ht hv hb1 hr1 hg (Nat.le_trans h.lo.1 (Nat.le_of_lt h.lt)) hmi hmt hN.1
      have hl2 := h2.look k hk
      rw [M.fup_same] at hl2
      have hr2 := h2.row
      obtain ⟨r1, r2, r3, r4, r5⟩ := M.rws_td s k
      rw [r2, r3] at hr2
      exact ⟨w2, hrun, hr2, hl2, ⟨_, g, rfl, by rw [bk_fup_same]; rfl, h2, h3⟩⟩
    have HI : Hid (w.drew.heap[b]? = some (.cells #[.int .i64 s.n, .int .i64 s.base, .map (some m)] 100 (0, 0))) := h.row
    have HG := Hid_of hnn
    have hmk := fun w => run_mk s.n.toNat (by omega) w
    rw [hnn] at hmk
    have HS : Hid (∀ wq : World, wq.heap[b]? = some (.cells #[.int .i64 s.n, .int .i64 s.base, .map (some m)] 100 (0, 0)) → (wq.cell? ⟨b, 0, none⟩ = some (.int .i64 s.n) ∧ wq.cell? ⟨b, 2, none⟩ = some (.map (some m)))) := fun wq hq => ⟨(row3 hq).1.1, (row3 hq).1.2.2⟩
    obtain ⟨nn, HNN⟩ : ∃ nn, Hid (s.n.toNat = nn) := ⟨_, Hid_of rfl⟩
    rw [HNN.out] at HP hmk
    have fc2 := fun g => field104c false ⟨#[]⟩ (.slice (some ⟨g, 0, none⟩) nn nn)
    clear h ok hc hk ht hv hN hnn HG HNN
    go_enter Try.func87, Try.ntmps87
    go_wp2_with fail
    refine wp_region_held_drew (S := fun wq => wq.heap[b]? = some (.cells #[.int .i64 s.n, .int .i64 s.base, .map (some m)] 100 (0, 0))) (by kernel_rfl) HI.out (fun hHeld => ?_)
    obtain ⟨wdb, hwdb⟩ : ∃ wd, w.drew = wd := ⟨_, rfl⟩
    have hBwd : Below w.heap.size w wdb := by rw [← hwdb]; exact Below.drew (Below.refl _ _)
    rw [hwdb] at hHeld ⊢
    clear hwdb
    refine Tm 0 ?p0b ?v0b hHeld ?r0b
    refine Tm 1 ?p1b ?v1b hHeld ?r1b
    refine Tm 2 ?p2b ?v2b hHeld ?r2b
    refine Tk 3 ?p3b ?v3b ?y3b hHeld ?r3b
    case y3b => intro wq hq; obtain ⟨a0, a2⟩ := HS.out wq hq; go_simp; try with_reducible rfl
    refine Tm 4 ?p4b ?v4b hHeld ?r4b
    refine Tm 5 ?p5b ?v5b hHeld ?r5b
    refine Tm 6 ?p6b ?v6b hHeld ?r6b
    refine Tm 7 ?p7b ?v7b hHeld ?r7b
    refine Tk 8 ?p8b ?v8b ?y8b hHeld ?r8b
    case y8b => intro wq hq; obtain ⟨a0, a2⟩ := HS.out wq hq; go_simp; try with_reducible rfl
    simp only [Act.put, Pa, Pb, Pc]
    refine Rd 9 ?p9b ?s9b
    intro K hK
    go_simp
    obtain ⟨W1, HW1⟩ : ∃ W1, Hid (wdb.alloc (.cells (wl.cells (List.replicate nn M.w0)).toArray 140) = W1) := ⟨_, Hid_of rfl⟩
    have hb1 : Below wdb.heap.size wdb W1 := by rw [← HW1.out]; exact bel1 wdb _
    have hr1 : W1.heap[wdb.heap.size]? = some (.cells (wl.cells (List.replicate nn M.w0)).toArray 140 (0, 0)) := by rw [← HW1.out]; exact heap_alloc_last wdb _
    have hs1 := bel_row hHeld hb1
    obtain ⟨w2, hput, hrow2, hlk2, hq2⟩ := HP.out W1 (bel_up hBwd hb1 (Nat.le_refl _)) wdb.heap.size hBwd.size hr1
    have HQ := Hid_of hq2
    rw [HW1.out]
    clear hq2 hb1 HW1 hr1
    refine hK.out _ _ hs1 (fun hHeld => ?_)
    clear hK K
    refine Tm 10 ?p10b_9 ?v10b_9 hHeld ?r10b_9
    simp only [Act.put, Pa, Pb, Pc]
    refine Rd 11 ?p11b_9 ?s11b_9
    intro K hK
    go_simp
    refine hK.out _ _ hrow2 (fun hHeld => ?_)
    clear hK K
    refine wpAnyH_done (by kernel_rfl) ?_ _
    obtain ⟨a0, a2⟩ := HS.out _ hHeld
    go_wp2
    go_ret
    exact HQ.out
  · obtain ⟨g, g1, g2, g3⟩ := h.vo k ht hv
    have hln : (s.vs k).length = s.n.toNat := by
      rcases ok.len k with e | e
      · exact absurd e hv
      · exact e
    have hr : M.rws s k = s := by unfold M.rws; rw [if_neg (by omega)]
    rw [g1, hln] at hlk
    replace hlk : (Instr.lookup 98 (.map (some m)) (.int .i64 k) false).run Try.prog w = .ok (.agg #[.bool false, .string ⟨#[]⟩, .slice (some ⟨g, 0, none⟩) s.n.toNat s.n.toNat]) w := hlk
    have HQ : Hid (VtOut w base b m s f k (.returned (.slice (some ⟨g, 0, none⟩) s.n.toNat s.n.toNat)) w) := ⟨f, g, rfl, bk_some g1, by rw [hr]; exact h, Fr.refl _ _⟩
    have hne : ¬ ((s.n.toNat : Nat) : Int) = 0 := by omega
    clear h ok hc hk ht hv hN hnn g1 g2 g3 hln hr
    generalize s.n.toNat = nn at *
    have fc := field104c false ⟨#[]⟩ (.slice (some ⟨g, 0, none⟩) nn nn)
    go_enter Try.func87, Try.ntmps87
    go_wp2
    go_ret
    exact HQ.out
end

end Go.Proofs.Ytgodnpngdbelhaa.Nl
