import Derived.Test.YtgodnpngdbelhaaGreatGP05
import Derived.Maps.OwnSet
set_option maxRecDepth 100000
set_option maxHeartbeats 8000000
set_option linter.unusedVariables false
set_option linter.unusedSimpArgs false
open Go.Proofs.Tryz
namespace Go.Proofs.YtgodnpngdbelhaaGreat.Nl
open Go.RowKit Go.Maps
open Go.Proofs.YtgodnpngdbelhaaGreat.M (E V)
open Go.Proofs.YtgodnpngdbelhaaGreat.Nl.M (W fup)
structure K where
 t : Bool
 v : ByteArray
 a : Option (Nat × Nat × Nat)
def svV : Option (Nat × Nat × Nat) → Value
 | none => .slice none 0 0
 | some (g, n, c) => .slice (some ⟨g, 0, none⟩) n c
def senc : Option (Nat × Nat × Nat) → DataW Unit
 | none => .agg []
 | some (g, n, c) => .agg [.lit (.int .i64 (g : Int)), .lit (.int .i64 (n : Int)), .lit (.int .i64 (c : Int))]
theorem senc_inj : ∀ {p q}, senc p = senc q → p = q
 | none, none, _ => rfl
 | none, some (g, n, c), h => by simp [senc] at h
 | some (g, n, c), none, h => by simp [senc] at h
 | some (g, n, c), some (g', n', c'), h => by
  simp only [senc, DataW.agg.injEq, List.cons.injEq, DataW.lit.injEq, Lit.int.injEq, and_true, true_and] at h; obtain ⟨h1, h2, h3⟩ := h; have : g = g' := by omega
  have : n = n' := by omega
  have : c = c' := by omega
  simp_all
abbrev kV (p : K) : Value := .agg #[.bool p.t, .string p.v, svV p.a]
def kenc (p : K) : DataW Unit := .agg [.lit (.bool p.t), .lit (.string p.v.data.toList), senc p.a]
theorem kenc_inj {p q : K} (h : kenc p = kenc q) : p = q := by
 obtain ⟨t, v, a⟩ := p; obtain ⟨t', v', a'⟩ := q; simp only [kenc, DataW.agg.injEq, List.cons.injEq, DataW.lit.injEq, Lit.bool.injEq, Lit.string.injEq, and_true] at h; obtain ⟨rfl, h2, h3⟩ := h; have hv : v = v' := by
  apply ByteArray.ext
  exact Array.ext' h2
 rw [hv, senc_inj h3]
def kR : Value → Option (DataW Unit × List MemPlace)
 | .agg ⟨[.bool t, .string s, .slice none 0 0]⟩ => some (kenc ⟨t, s, none⟩, [])
 | .agg ⟨[.bool t, .string s, .slice (some ⟨g, 0, none⟩) n c]⟩ => some (kenc ⟨t, s, some (g, n, c)⟩, [])
 | _ => none
theorem kR_mk : ∀ p, kR (kV p) = some (kenc p, [])
 | ⟨t, s, none⟩ => rfl
 | ⟨t, s, some (g, n, c)⟩ => rfl
theorem kR_shape {v : Value} {y : DataW Unit × List MemPlace} (h : kR v = some y) : ∃ p, v = kV p ∧ y = (kenc p, []) := by
 unfold kR at h
 split at h
 ·rename_i t s; cases h; exact ⟨⟨t, s, none⟩, rfl, rfl⟩
 ·rename_i t s g n c; cases h; exact ⟨⟨t, s, some (g, n, c)⟩, rfl, rfl⟩
 ·cases h
theorem kR_inv {v : Value} {p : K} {ps : List MemPlace} (h : kR v = some (kenc p, ps)) : v = kV p := by
 obtain ⟨q, rfl, e⟩ := kR_shape h; simp only [Prod.mk.injEq] at e; rw [kenc_inj e.1]
theorem law3 : Keyed prog 3 := int_keyed underlying3
def k0 : K := ⟨false, ⟨#[]⟩, none⟩
theorem zero104 (w : World) : (zeroValue 160).run prog w = .ok (kV k0) w := by kernel_rfl
def MI (w : World) (m n : Nat) (f : Int → Option K) : Prop := ∃ D : DataW Unit, w.ownsMap prog 3 kR m n D ∧ ∀ k, D.atKey (.int .i64 k) (kenc k0) = kenc ((f k).getD k0) ∧ Maps.has D (.int .i64 k) = (f k).isSome
structure MT (w : World) (m : Nat) (w' : World) : Prop where
 os : w'.os = w.os
 tape : w'.tape = w.tape
 output : w'.output = w.output
 size : w'.heap.size = w.heap.size
 block : ∀ k, k ≠ m → w'.heap[k]? = w.heap[k]?
theorem MT.of {w w' : World} {m : Nat} (h : w.mapTurned w' m) : MT w m w' := by
 obtain ⟨es, clock, es', clock', hb, rfl⟩ := h; exact ⟨rfl, rfl, rfl, by simp [ChangeMaps.setBlock], fun k hk => ChangeMaps.heap_setBlock_other hb _ hk⟩
theorem MT.refl (w : World) (m : Nat) : MT w m w := ⟨rfl, rfl, rfl, rfl, fun _ _ => rfl⟩
theorem MT.trans {w w1 w2 : World} {m : Nat} (h : MT w m w1) (k : MT w1 m w2) : MT w m w2 := ⟨k.os.trans h.os, k.tape.trans h.tape, k.output.trans h.output, k.size.trans h.size, fun j hj => (k.block j hj).trans (h.block j hj)⟩
section
variable {w w' : World} {m n : Nat} {f : Int → Option K}
theorem MI.keep (h : MI w m n f) (hk : w'.heap[m]? = w.heap[m]?) : MI w' m n f := by
 obtain ⟨D, ⟨es, clock, hb, rest⟩, hD⟩ := h; exact ⟨D, ⟨es, clock, hk.trans hb, rest⟩, hD⟩
theorem MI.lt (h : MI w m n f) : m < w.heap.size := by
 obtain ⟨D, h, _⟩ := h; exact h.lt
theorem MI.ne (h : MI w m n f) {b : Nat} {cs : Array Value} {t : TypeId} {z : Nat × Nat} (hb : w.heap[b]? = some (.cells cs t z)) : b ≠ m := by
 obtain ⟨D, ⟨es, clock, hm, _⟩, _⟩ := h; intro e; subst e; rw [hm] at hb; cases hb
theorem MI.look (h : MI w m n f) (k : Int) (hk : (Lit.int .i64 k).wf = true) : (Instr.lookup 138 (.map (some m)) (.int .i64 k) false).run prog w = .ok (kV ((f k).getD k0)) w := by
 obtain ⟨D, h, hD⟩ := h; obtain ⟨v, ps, hrun, hv⟩ := h.lookup law3 underlying138 (zero104 w) (zd := kenc k0) (zp := []) rfl (keyOf_int_mk underlying3 hk); rw [(hD k).1] at hv; rw [hrun, kR_inv hv]
theorem lit_ne {j k : Int} (h : j ≠ k) : (Lit.int .i64 j) ≠ (Lit.int .i64 k) := fun e => h (by cases e; rfl)
theorem MI.put (h : MI w m n f) (k : Int) (hk : (Lit.int .i64 k).wf = true) (p : K) (hn : n < maxLen) :
  ∃ w', (Instr.mapUpdate 138 (.map (some m)) (.int .i64 k) (kV p)).run prog w = .ok () w' ∧ MI w' m (n + 1) (fup f k (some p)) ∧ MT w m w' := by
 obtain ⟨D, h, hD⟩ := h; obtain ⟨w', hrun, h', ht⟩ := h.store law3 underlying138 hn (keyOf_int_mk underlying3 hk) (kR_mk p); refine ⟨w', hrun, ⟨_, h', fun j => ?_⟩, MT.of ht⟩; unfold fup; by_cases hj : j = k
 ·subst hj; rw [if_pos rfl, atKey_put_same h.isMap (law3.key (keyOf_int_mk underlying3 hk)), Maps.has_put_same h.isMap (law3.key (keyOf_int_mk underlying3 hk))]; exact ⟨rfl, rfl⟩
 ·rw [if_neg hj, atKey_put_other (lit_ne hj), Maps.has_put_other (lit_ne hj)]; exact hD j
theorem MI.del (h : MI w m n f) (k : Int) (hk : (Lit.int .i64 k).wf = true) (ty : TypeId) :
  ∃ w', (Builtin.delete_ #[138, 3] ty #[.map (some m), .int .i64 k]).run prog w = .ok (.tuple #[]) w' ∧ MI w' m n (fup f k none) ∧ MT w m w' := by
 obtain ⟨D, h, hD⟩ := h; obtain ⟨w', hrun, h', ht⟩ := h.drop law3 underlying138 (keyOf_int_mk underlying3 hk) ty; refine ⟨w', hrun, ⟨_, h', fun j => ?_⟩, MT.of ht⟩; unfold fup; by_cases hj : j = k
 ·subst hj; rw [if_pos rfl, atKey_del_same, Maps.has_del_same]; exact ⟨rfl, rfl⟩
 ·rw [if_neg hj, atKey_del_other (lit_ne hj), Maps.has_del_other (lit_ne hj)]; exact hD j
theorem MI.made (w : World) : MI (w.alloc (.map #[] 0)) w.heap.size 0 (fun _ => none) := ⟨_, World.ownsMap_made _ _ _ _, fun _ => ⟨rfl, rfl⟩⟩
end
def wl : Ly W := ⟨4, fun x => [.bool x.g, .int .i64 x.b.i, .int .i64 x.b.t, .string x.v], fun _ => rfl, fun x v h => by simp at h; rcases h with rfl | rfl | rfl | rfl <;> rfl, by decide⟩
abbrev wV (x : W) : Value := .agg #[.bool x.g, .int .i64 x.b.i, .int .i64 x.b.t, .string x.v]
def bk (f : Int → Option K) (k : Int) : Option Nat := match f k with
 | some p => p.a.map Prod.fst
 | none => none
theorem bk_some {f : Int → Option K} {k : Int} {p : K} (h : f k = some p) : bk f k = p.a.map Prod.fst := by unfold bk; rw [h]
theorem bk_none {f : Int → Option K} {k : Int} (h : f k = none) : bk f k = none := by unfold bk; rw [h]
theorem bk_fup_same (f : Int → Option K) (k : Int) (p : Option K) : bk (fup f k p) k = (match p with | some p => p.a.map Prod.fst | none => none) := by unfold bk; rw [M.fup_same]
theorem bk_fup_other {f : Int → Option K} {k j : Int} (p : Option K) (h : j ≠ k) : bk (fup f k p) j = bk f j := by unfold bk; rw [M.fup_other _ h]
def fpl (b m : Nat) (f : Int → Option K) (k : Nat) : Prop := k = b ∨ k = m ∨ ∃ c, bk f c = some k
structure LI (w : World) (base b m : Nat) (s : M.S) (f : Int → Option K) : Prop where
 row : w.heap[b]? = some (.cells #[.int .i64 s.n, .int .i64 s.base, .map (some m)] 140 (0, 0))
 mi : MI w m s.c f
 td : ∀ k v, s.td k = some v → f k = some ⟨true, v, none⟩
 un : ∀ k, s.td k = none → s.vs k = [] → f k = none
 vo : ∀ k, s.td k = none → s.vs k ≠ [] → ∃ g, f k = some ⟨false, ⟨#[]⟩, some (g, (s.vs k).length, (s.vs k).length)⟩ ∧ w.heap[g]? = some (.cells (wl.cells (s.vs k)).toArray 205 (0, 0)) ∧ base ≤ g
 ap : ∀ k j g, bk f k = some g → bk f j = some g → k = j
 lo : base ≤ b ∧ base ≤ m
theorem row3 {w : World} {k : Nat} {v0 v1 v2 : Value} {t : TypeId} (h : w.heap[k]? = some (.cells #[v0, v1, v2] t (0, 0))) :
  (w.cell? ⟨k, 0, none⟩ = some v0 ∧ w.cell? ⟨k, 1, none⟩ = some v1 ∧ w.cell? ⟨k, 2, none⟩ = some v2) ∧ ∀ j, w.frozen? ⟨k, j, none⟩ = false :=
 ⟨⟨by rw [cell_of_row w k 0 _ _ _ h]; rfl, by rw [cell_of_row w k 1 _ _ _ h]; rfl, by rw [cell_of_row w k 2 _ _ _ h]; rfl⟩, fun j => frozen_of_row w k j _ _ h⟩
section
variable {w w' : World} {base b m : Nat} {s : M.S} {f : Int → Option K}
theorem LI.lt (h : LI w base b m s f) : b < w.heap.size := (Array.getElem?_eq_some_iff.1 h.row).1
theorem LI.bm (h : LI w base b m s f) : b ≠ m := h.mi.ne h.row
theorem LI.bk (h : LI w base b m s f) {k : Int} {g : Nat} (hg : YtgodnpngdbelhaaGreat.Nl.bk f k = some g) : s.td k = none ∧ s.vs k ≠ [] ∧ f k = some ⟨false, ⟨#[]⟩, some (g, (s.vs k).length, (s.vs k).length)⟩ ∧ w.heap[g]? = some (.cells (wl.cells (s.vs k)).toArray 205 (0, 0)) ∧ base ≤ g := by
 cases ht : s.td k with
 | some v =>
  rw [bk_some (h.td k v ht)] at hg; cases hg
 | none =>
  by_cases hv : s.vs k = []
  ·rw [bk_none (h.un k ht hv)] at hg; cases hg
  ·obtain ⟨g', h1, h2, h3⟩ := h.vo k ht hv; rw [bk_some h1] at hg; cases hg; exact ⟨rfl, hv, h1, h2, h3⟩
theorem LI.ne (h : LI w base b m s f) {k : Int} {g : Nat} (hg : YtgodnpngdbelhaaGreat.Nl.bk f k = some g) : g ≠ b ∧ g ≠ m := by
 obtain ⟨_, _, _, h4, _⟩ := h.bk hg; refine ⟨fun e => ?_, h.mi.ne h4⟩; subst e; rw [h.row] at h4; simp at h4
theorem LI.mine (h : LI w base b m s f) : ∀ k, fpl b m f k → base ≤ k ∧ k < w.heap.size := by
 rintro k (rfl | rfl | ⟨c, e⟩)
 ·exact ⟨h.lo.1, h.lt⟩
 ·exact ⟨h.lo.2, h.mi.lt⟩
 ·obtain ⟨_, _, _, h4, h5⟩ := h.bk e; exact ⟨h5, (Array.getElem?_eq_some_iff.1 h4).1⟩
theorem LI.keepBut (h : LI w base b m s f) (hb : ∀ k, k < w.heap.size → fpl b m f k → w'.heap[k]? = w.heap[k]?) : LI w' base b m s f :=
 ⟨(hb b h.lt (.inl rfl)).trans h.row, h.mi.keep (hb m h.mi.lt (.inr (.inl rfl))), h.td, h.un, fun k h1 h2 => by
  obtain ⟨g, e1, e2, e3⟩ := h.vo k h1 h2; exact ⟨g, e1, (hb g (Array.getElem?_eq_some_iff.1 e2).1 (.inr (.inr ⟨k, bk_some e1⟩))).trans e2, e3⟩, h.ap, h.lo⟩
theorem LI.keep (h : LI w base b m s f) (hb : Bl w w') : LI w' base b m s f := h.keepBut fun k hk _ => hb.block k hk
theorem LI.look (h : LI w base b m s f) (k : Int) (hk : (Lit.int .i64 k).wf = true) : (Instr.lookup 138 (.map (some m)) (.int .i64 k) false).run prog w = .ok (kV ((f k).getD k0)) w := h.mi.look k hk
theorem LI.told (h : LI w base b m s f) (k : Int) : ((f k).getD k0).t = (s.td k).isSome := by
 cases ht : s.td k with
 | some v => rw [h.td k v ht]; rfl
 | none =>
  by_cases hv : s.vs k = []
  ·rw [h.un k ht hv]; rfl
  ·obtain ⟨g, h1, _⟩ := h.vo k ht hv; rw [h1]; rfl
theorem LI.val (h : LI w base b m s f) (k : Int) : ((f k).getD k0).v = (s.td k).getD ⟨#[]⟩ := by
 cases ht : s.td k with
 | some v => rw [h.td k v ht]; rfl
 | none =>
  by_cases hv : s.vs k = []
  ·rw [h.un k ht hv]; rfl
  ·obtain ⟨g, h1, _⟩ := h.vo k ht hv; rw [h1]; rfl
theorem LI.tell (h : LI w base b m s f) {k : Int} {v : ByteArray} (hM : MI w' m (s.c + 1) (fup f k (some ⟨true, v, none⟩))) (hT : MT w m w') : LI w' base b m (M.tl s k v) (fup f k (some ⟨true, v, none⟩)) ∧ Fr w (fpl b m f) w' (fpl b m (fup f k (some ⟨true, v, none⟩))) := by
 have hother : ∀ j g, YtgodnpngdbelhaaGreat.Nl.bk (fup f k (some ⟨true, v, none⟩)) j = some g → YtgodnpngdbelhaaGreat.Nl.bk f j = some g ∧ j ≠ k := fun j g e => by
  by_cases hj : j = k
  ·subst hj; rw [bk_fup_same] at e; cases e
  ·rw [bk_fup_other _ hj] at e; exact ⟨e, hj⟩
 refine ⟨⟨(hT.block b h.bm).trans h.row, hM, fun j u e => ?_, fun j e e2 => ?_, fun j e e2 => ?_, fun j i g e1 e2 => h.ap j i g (hother j g e1).1 (hother i g e2).1, h.lo⟩, ⟨hT.os, hT.tape, hT.output, by rw [hT.size]; exact Nat.le_refl _, fun j _ hF => hT.block j (fun e => hF (.inr (.inl e))), fun j hj => ?_⟩⟩
 ·have e' : fup s.td k (some v) j = some u := e; by_cases hj : j = k
  ·subst hj; rw [M.fup_same] at e' ⊢; cases e'; rfl
  ·rw [M.fup_other _ hj] at e' ⊢; exact h.td j u e'
 ·have e' : fup s.td k (some v) j = none := e; have e2' : fup s.vs k [] j = [] := e2; by_cases hj : j = k
  ·subst hj; rw [M.fup_same] at e'; cases e'
  ·rw [M.fup_other _ hj] at e' e2' ⊢; exact h.un j e' e2'
 ·have e' : fup s.td k (some v) j = none := e; have e2' : fup s.vs k [] j ≠ [] := e2; show ∃ g, fup f k (some ⟨true, v, none⟩) j = some ⟨false, ⟨#[]⟩, some (g, (fup s.vs k [] j).length, (fup s.vs k [] j).length)⟩ ∧ w'.heap[g]? = some (.cells (wl.cells (fup s.vs k [] j)).toArray 205 (0, 0)) ∧ base ≤ g; by_cases hj : j = k
  ·subst hj; rw [M.fup_same] at e'; cases e'
  ·rw [M.fup_other _ hj] at e' e2' ⊢; rw [M.fup_other _ hj]; obtain ⟨g, g1, g2, g3⟩ := h.vo j e' e2'; exact ⟨g, g1, (hT.block g (h.ne (bk_some g1)).2).trans g2, g3⟩
 ·rcases hj with rfl | rfl | ⟨c, e⟩
  ·exact .inl (.inl rfl)
  ·exact .inl (.inr (.inl rfl))
  ·exact .inl (.inr (.inr ⟨c, (hother c _ e).1⟩))
theorem LI.make (h : LI w base b m s f) {k : Int} {g : Nat} {w1 : World} (hk : s.td k = none) (hv : s.vs k = []) (hb : Bl w w1) (hg : w1.heap[g]? = some (.cells (wl.cells (List.replicate s.n.toNat M.w0)).toArray 205 (0, 0))) (hn : w.heap.size ≤ g) (h0 : base ≤ w.heap.size)
  (hM : MI w' m (s.c + 1) (fup f k (some ⟨false, ⟨#[]⟩, some (g, s.n.toNat, s.n.toNat)⟩))) (hT : MT w1 m w') (h1 : 1 ≤ s.n) :
  LI w' base b m (M.rws s k) (fup f k (some ⟨false, ⟨#[]⟩, some (g, s.n.toNat, s.n.toNat)⟩)) ∧ Fr w (fpl b m f) w' (fpl b m (fup f k (some ⟨false, ⟨#[]⟩, some (g, s.n.toNat, s.n.toNat)⟩))) := by
 have hr : M.rws s k = { s with vs := fup s.vs k (List.replicate s.n.toNat M.w0), c := s.c + 1 } := by unfold M.rws; rw [hv]; rfl
 have hX := h.keep hb; have hlt := h.mine; have hgm : g ≠ m := hX.mi.ne hg; have hoth : ∀ j q, YtgodnpngdbelhaaGreat.Nl.bk (fup f k (some ⟨false, ⟨#[]⟩, some (g, s.n.toNat, s.n.toNat)⟩)) j = some q → (j = k ∧ q = g) ∨ (j ≠ k ∧ YtgodnpngdbelhaaGreat.Nl.bk f j = some q) := fun j q e => by
  by_cases hj : j = k
  ·subst hj; rw [bk_fup_same] at e; simp at e; exact .inl ⟨rfl, e.symm⟩
  ·rw [bk_fup_other _ hj] at e; exact .inr ⟨hj, e⟩
 have hold : ∀ j q, YtgodnpngdbelhaaGreat.Nl.bk f j = some q → q < w.heap.size := fun j q e => (hlt q (.inr (.inr ⟨j, e⟩))).2; rw [hr]; refine ⟨⟨(hT.block b h.bm).trans hX.row, hM, fun j u e => ?_, fun j e e2 => ?_, fun j e e2 => ?_, fun j i q e1 e2 => ?_, h.lo⟩, ⟨hT.os.trans hb.os, hT.tape.trans hb.tape, hT.output.trans hb.output, by rw [hT.size]; exact hb.size, fun j hj hF => (hT.block j (fun e => hF (.inr (.inl e)))).trans (hb.block j hj), fun j hj => ?_⟩⟩
 ·have hj : j ≠ k := fun e2 => by
   subst e2; have e' : s.td j = some u := e; rw [hk] at e'; cases e'
  rw [M.fup_other _ hj]; exact h.td j u e
 ·have e2' : fup s.vs k (List.replicate s.n.toNat M.w0) j = [] := e2; by_cases hj : j = k
  ·subst hj; rw [M.fup_same] at e2'; have := congrArg List.length e2'; simp at this; omega
  ·rw [M.fup_other _ hj] at e2' ⊢; exact h.un j e e2'
 ·have e2' : fup s.vs k (List.replicate s.n.toNat M.w0) j ≠ [] := e2; show ∃ q, fup f k (some ⟨false, ⟨#[]⟩, some (g, s.n.toNat, s.n.toNat)⟩) j = some ⟨false, ⟨#[]⟩, some (q, (fup s.vs k (List.replicate s.n.toNat M.w0) j).length, (fup s.vs k (List.replicate s.n.toNat M.w0) j).length)⟩ ∧ w'.heap[q]? = some (.cells (wl.cells (fup s.vs k (List.replicate s.n.toNat M.w0) j)).toArray 205 (0, 0)) ∧ base ≤ q; by_cases hj : j = k
  ·subst hj; rw [M.fup_same, M.fup_same, List.length_replicate]; exact ⟨g, rfl, (hT.block g hgm).trans hg, by omega⟩
  ·rw [M.fup_other _ hj] at e2' ⊢; rw [M.fup_other _ hj]; obtain ⟨q, g1, g2, g3⟩ := hX.vo j e e2'; exact ⟨q, g1, (hT.block q (h.ne (bk_some g1)).2).trans g2, g3⟩
 ·rcases hoth j q e1 with ⟨a1, a2⟩ | ⟨a1, a2⟩ <;> rcases hoth i q e2 with ⟨b1, b2⟩ | ⟨b1, b2⟩
  ·rw [a1, b1]
  ·have := hold _ _ b2; omega
  ·have := hold _ _ a2; omega
  ·exact h.ap j i q a2 b2
 ·rcases hj with rfl | rfl | ⟨c, e⟩
  ·exact .inl (.inl rfl)
  ·exact .inl (.inr (.inl rfl))
  ·rcases hoth c j e with ⟨_, rfl⟩ | ⟨_, e⟩
   ·exact .inr hn
   ·exact .inl (.inr (.inr ⟨c, e⟩))
theorem LI.rowed (h : LI w base b m s f) {k : Int} {g : Nat} {l : List W} (hk : YtgodnpngdbelhaaGreat.Nl.bk f k = some g) (hl : l.length = (s.vs k).length) (hg : w'.heap[g]? = some (.cells (wl.cells l).toArray 205 (0, 0))) (hs : w.heap.size ≤ w'.heap.size) (ho : w'.os = w.os) (ht : w'.tape = w.tape) (hu : w'.output = w.output) (hb : ∀ j, j < w.heap.size → j ≠ g → w'.heap[j]? = w.heap[j]?) :
  LI w' base b m (M.sv s k l) f ∧ Fr w (fpl b m f) w' (fpl b m f) := by
 obtain ⟨t1, t2, t3, t4, t5⟩ := h.bk hk; obtain ⟨n1, n2⟩ := h.ne hk; refine ⟨⟨(hb b h.lt n1.symm).trans h.row, h.mi.keep (hb m h.mi.lt n2.symm), h.td, fun j e e2 => ?_, fun j e e2 => ?_, h.ap, h.lo⟩, ⟨ho, ht, hu, hs, fun j hj hF => hb j hj (fun e => hF (.inr (.inr ⟨k, by rw [e]; exact hk⟩))), fun j hj => .inl hj⟩⟩
 ·have e2' : fup s.vs k l j = [] := e2; by_cases hj : j = k
  ·subst hj; rw [M.fup_same] at e2'; rw [e2'] at hl; exact absurd (List.length_eq_zero_iff.1 hl.symm) t2
  ·rw [M.fup_other _ hj] at e2'; exact h.un j e e2'
 ·have e2' : fup s.vs k l j ≠ [] := e2; show ∃ q, f j = some ⟨false, ⟨#[]⟩, some (q, (fup s.vs k l j).length, (fup s.vs k l j).length)⟩ ∧ w'.heap[q]? = some (.cells (wl.cells (fup s.vs k l j)).toArray 205 (0, 0)) ∧ base ≤ q; by_cases hj : j = k
  ·subst hj; rw [M.fup_same, hl]; exact ⟨g, t3, hg, t5⟩
  ·rw [M.fup_other _ hj] at e2' ⊢; obtain ⟨q, g1, g2, g3⟩ := h.vo j e e2'; have hq : q ≠ g := fun e3 => hj (h.ap j k g (by rw [bk_some g1, e3]; rfl) hk); exact ⟨q, g1, (hb q (Array.getElem?_eq_some_iff.1 g2).1 hq).trans g2, g3⟩
def cutf (f : Int → Option K) (k j : Int) : Int → Option K := fun i => if k ≤ i ∧ i < j then none else f i
theorem cutf_nil (f : Int → Option K) (k : Int) : cutf f k k = f := by
 funext i
 unfold cutf; rw [if_neg (by omega)]
theorem cutf_step (f : Int → Option K) {k j : Int} (h : k ≤ j) : fup (cutf f k j) j none = cutf f k (j + 1) := by
 funext i
 unfold cutf fup; show (if i = j then none else (if k ≤ i ∧ i < j then none else f i)) = (if k ≤ i ∧ i < j + 1 then none else f i); by_cases hi : i = j
 ·subst hi; rw [if_pos rfl, if_pos (by omega)]
 ·rw [if_neg hi]; by_cases h1 : k ≤ i ∧ i < j
  ·rw [if_pos h1, if_pos (by omega)]
  ·rw [if_neg h1, if_neg (by omega)]
theorem LI.trim (h : LI w base b m s f) (ok : M.Ok s) (u : Int) {w1 : World} (hr : w1.heap[b]? = some (.cells #[.int .i64 s.n, .int .i64 (M.tb s u), .map (some m)] 140 (0, 0))) (ho : w1.os = w.os) (ht : w1.tape = w.tape) (hu : w1.output = w.output) (hs : w.heap.size ≤ w1.heap.size) (hb : ∀ j, j < w.heap.size → j ≠ b → w1.heap[j]? = w.heap[j]?)
  (hM : MI w' m s.c (cutf f s.base (M.tb s u))) (hT : MT w1 m w') : LI w' base b m (M.tr s u) (cutf f s.base (M.tb s u)) ∧ Fr w (fpl b m f) w' (fpl b m (cutf f s.base (M.tb s u))) := by
 obtain ⟨n1, n2, n3, n4⟩ := ok.nx; have hB := ok.base; have hle : s.base ≤ M.tb s u ∧ M.tb s u ≤ M.nx s := by unfold M.tb; omega
 have hsm : ∀ j g, YtgodnpngdbelhaaGreat.Nl.bk (cutf f s.base (M.tb s u)) j = some g → YtgodnpngdbelhaaGreat.Nl.bk f j = some g := fun j g e => by
  unfold YtgodnpngdbelhaaGreat.Nl.bk cutf at e; by_cases hj : s.base ≤ j ∧ j < M.tb s u
  ·rw [if_pos hj] at e; cases e
  ·rw [if_neg hj] at e; exact e
 refine ⟨⟨(hT.block b h.bm).trans hr, hM, fun j v e => ?_, fun j e e2 => ?_, fun j e e2 => ?_, fun j i g e1 e2 => h.ap j i g (hsm j g e1) (hsm i g e2), h.lo⟩, ⟨hT.os.trans ho, hT.tape.trans ht, hT.output.trans hu, by rw [hT.size]; exact hs, fun j hj hF => (hT.block j (fun e => hF (.inr (.inl e)))).trans (hb j hj (fun e => hF (.inl e))), fun j hj => ?_⟩⟩
 ·have e' : (if j < M.tb s u then none else s.td j) = some v := e
  split at e'
  ·cases e'
  ·unfold cutf; rw [if_neg (by omega)]; exact h.td j v e'
 ·have e' : (if j < M.tb s u then none else s.td j) = none := e; unfold cutf; by_cases hj : s.base ≤ j ∧ j < M.tb s u
  ·rw [if_pos hj]
  ·rw [if_neg hj]; have ht : s.td j = none := by
    split at e'
    ·cases hq : s.td j with
     | none => rfl
     | some v =>
      have := (ok.td j v hq).1; omega
    ·exact e'
   exact h.un j ht e2
 ·have e' : (if j < M.tb s u then none else s.td j) = none := e; have hj : ¬ (s.base ≤ j ∧ j < M.tb s u) := fun hj => e2 (ok.vs j (n1 j hj.1 (by omega))); have ht : s.td j = none := by
   split at e'
   ·cases hq : s.td j with
    | none => rfl
    | some v =>
     have := (ok.td j v hq).1; omega
   ·exact e'
  unfold cutf; rw [if_neg hj]; obtain ⟨g, g1, g2, g3⟩ := h.vo j ht e2; obtain ⟨m1, m2⟩ := h.ne (bk_some g1); exact ⟨g, g1, (hT.block g m2).trans ((hb g (Array.getElem?_eq_some_iff.1 g2).1 m1).trans g2), g3⟩
 ·rcases hj with rfl | rfl | ⟨c, e⟩
  ·exact .inl (.inl rfl)
  ·exact .inl (.inr (.inl rfl))
  ·exact .inl (.inr (.inr ⟨c, hsm c _ e⟩))
end
theorem field104a (t : Bool) (v : ByteArray) (a : Value) (w : World) : (Instr.field 160 (.agg #[.bool t, .string v, a]) 0).run prog w = .ok (.bool t) w := by kernel_rfl
theorem field104b (t : Bool) (v : ByteArray) (a : Value) (w : World) : (Instr.field 160 (.agg #[.bool t, .string v, a]) 1).run prog w = .ok (.string v) w := by kernel_rfl
theorem field104c (t : Bool) (v : ByteArray) (a : Value) (w : World) : (Instr.field 160 (.agg #[.bool t, .string v, a]) 2).run prog w = .ok a w := by kernel_rfl
theorem wf_small {k : Int} (h0 : 0 ≤ k) (h1 : k ≤ 4096) : (Lit.int .i64 k).wf = true := by
 have e1 : IntKind.i64.min = -9223372036854775808 := rfl; have e2 : IntKind.i64.max = 9223372036854775807 := rfl; simp only [Lit.wf, e1, e2, Bool.and_eq_true, decide_eq_true_eq]; omega
def NewOut (w : World) (n : Int) (e : Ending) (w' : World) : Prop :=
 (M.nde n = false ∧ e = .returned (.pointer none) ∧ w' = w) ∨ (M.nde n = true ∧ ∃ b m, e = .returned (.pointer (some ⟨b, 0, none⟩)) ∧ LI w' w.heap.size b m (M.s0 n) (fun _ => none) ∧ Bl w w')
theorem new_any (n : Int) (w : World) : Calls prog 48 #[.int .i64 n] w (NewOut w n) := by
 by_cases h0 : n < 1
 ·have HN : Hid (M.nde n = false) := Hf (by unfold M.nde; simp; omega); have d0 : decide (n < 1) = true := decide_eq_true h0; clear h0; go_enter func48, ntmps48; go_wp2; go_ret; exact .inl ⟨HN.out, rfl, rfl⟩
 ·have d0 : decide (n < 1) = false := decide_eq_false h0; by_cases h1 : 7 < n
  ·have HN : Hid (M.nde n = false) := Hf (by unfold M.nde; simp; omega); have d1 : decide (7 < n) = true := decide_eq_true h1; clear h0 h1; go_enter func48, ntmps48; go_wp2; go_ret; exact .inl ⟨HN.out, rfl, rfl⟩
  ·have HN : Hid (M.nde n = true) := Hf (by unfold M.nde; simp; omega); have d1 : decide (7 < n) = false := decide_eq_false h1; clear h0 h1; have hmm := @run_makeMap prog; have hb1 : Below w.heap.size w ((w.alloc (.map #[] 0)).alloc (.cells #[.int .i64 n, .int .i64 0, .map (some w.heap.size)] 140)) := (bel1 w (.map #[] 0)).alloc (by simp) _; have hh := heap_alloc2_old w (.map #[] 0) (.cells #[.int .i64 n, .int .i64 0, .map (some w.heap.size)] 140); have hn := heap_alloc2_new w (.map #[] 0) (.cells #[.int .i64 n, .int .i64 0, .map (some w.heap.size)] 140); have HK : Hid (NewOut w n (.returned (.pointer (some ⟨w.heap.size + 1, 0, none⟩))) ((w.alloc (.map #[] 0)).alloc (.cells #[.int .i64 n, .int .i64 0, .map (some w.heap.size)] 140))) := by
    refine .inr ⟨HN.out, w.heap.size + 1, w.heap.size, rfl, ⟨hn, (MI.made w).keep ?_, fun k v e => (by cases e), fun _ _ _ => rfl, fun k _ e => absurd rfl e, fun k j g e => (by cases e), ⟨by omega, Nat.le_refl _⟩⟩, hb1⟩; rw [hh]; exact (heap_alloc_last w _).symm
   clear hb1 hh hn HN; go_enter func48, ntmps48; go_wp2; go_ret; exact HK.out
section
variable {w : World} {base b m : Nat} {s : M.S} {f : Int → Option K}
theorem base_any (h : LI w base b m s f) : Calls prog 67 #[.pointer (some ⟨b, 0, none⟩)] w fun e w' => e = .returned (.int .i64 s.base) ∧ w' = w := by
 obtain ⟨c0, _⟩ := row3 h.row; clear h; go_enter func67, ntmps67; go_wp2; go_ret; exact ⟨rfl, rfl⟩
theorem next_any (h : LI w base b m s f) (ok : M.Ok s) : Calls prog 69 #[.pointer (some ⟨b, 0, none⟩)] w fun e w' => e = .returned (.int .i64 (M.nx s)) ∧ w' = w := by
 obtain ⟨c0, _⟩ := row3 h.row; obtain ⟨n1, n2, n3, n4⟩ := ok.nx; have hb := ok.base; have H := Hf h; have N1 := Hf n1; have N2 := Hf n2; have NB : Hid (∃ z, z = s.base) := ⟨_, rfl⟩; generalize M.nx s = N at *; clear h ok n1 n2; go_enter func69, ntmps69; go_wp2; go_loopw [3] (fun i wr => ∃ k : Int, s.base ≤ k ∧ k ≤ N ∧ i = .int .i64 k ∧ wr = w) (fun i _ => (N - intOf i).toNat)
 case atStart => exact ⟨s.base, by omega, by omega, rfl, rfl⟩
 case round =>
  obtain ⟨k, hk1, hk2, rfl, rfl⟩ := hrel; have hlk := H.out.look k (wf_small (by omega) (by omega)); have ht := H.out.told k; obtain ⟨⟨t, v, a⟩, hp⟩ : ∃ p, (f k).getD k0 = p := ⟨_, rfl⟩; rw [hp] at hlk ht
  replace hlk : (Instr.lookup 138 (.map (some m)) (.int .i64 k) false).run prog wr = .ok (.agg #[.bool t, .string v, svV a]) wr := hlk
  generalize svV a = sa at *; have fa := field104a t v sa; by_cases hlt : k < N
  ·rw [N1.out k hk1 hlt] at ht; simp only at ht; subst ht; clear hp; go_wp2; go_roundw
   case rel => exact ⟨k + 1, by omega, by omega, by go_num, trivial⟩
   case measure => simp [intOf]; omega
  ·obtain rfl : k = N := by omega
   rw [N2.out] at ht; simp only [Option.isSome_none] at ht; subst ht; clear hp; go_wp2; go_ret; exact ⟨rfl, rfl⟩
theorem mayTell_any (h : LI w base b m s f) (k : Int) (hk : (Lit.int .i64 k).wf = true) (x : ByteArray) : Calls prog 129 #[.pointer (some ⟨b, 0, none⟩), .int .i64 k, .string x] w fun e w' => e = .returned (.bool (M.may s k x)) ∧ w' = w := by
 have hlk := h.look k hk; have ht := h.told k; obtain ⟨c0, _⟩ := row3 h.row; obtain ⟨⟨t, v, a⟩, hp⟩ : ∃ p, (f k).getD k0 = p := ⟨_, rfl⟩; rw [hp] at hlk ht
 replace hlk : (Instr.lookup 138 (.map (some m)) (.int .i64 k) false).run prog w = .ok (.agg #[.bool t, .string v, svV a]) w := hlk
 generalize svV a = sa at *; have fa := field104a t v sa; simp only at ht; have HM : Hid (M.may s k x = (decide (s.base ≤ k) && (decide (k < 1024) && (decide (x.size ≤ 4096) && !(s.td k).isSome)))) := Hf rfl; rw [HM.out, ← ht]; clear h hp HM ht; by_cases h0 : s.base ≤ k
 ·have d0 : decide (s.base ≤ k) = true := decide_eq_true h0; rw [d0]; by_cases h1 : k < 1024
  ·have d1 : decide (k < 1024) = true := decide_eq_true h1; rw [d1]; by_cases h2 : x.size ≤ 4096
   ·have d2 : decide ((x.size : Int) ≤ (4096 : Int)) = true := decide_eq_true (by omega); rw [decide_eq_true h2]; clear h0 h1 h2; cases t with
    | false =>
     go_enter func129, ntmps129; go_wp2; go_ret; exact ⟨rfl, rfl⟩
    | true =>
     go_enter func129, ntmps129; go_wp2; go_ret; exact ⟨rfl, rfl⟩
   ·have d2 : decide ((x.size : Int) ≤ (4096 : Int)) = false := decide_eq_false (by omega); rw [decide_eq_false h2]; clear h0 h1 h2; go_enter func129, ntmps129; go_wp2; go_ret; exact ⟨rfl, rfl⟩
  ·have d1 : decide (k < 1024) = false := decide_eq_false h1; rw [d1]; clear h0 h1; go_enter func129, ntmps129; go_wp2; go_ret; exact ⟨rfl, rfl⟩
 ·have d0 : decide (s.base ≤ k) = false := decide_eq_false h0; rw [d0]; clear h0; go_enter func129, ntmps129; go_wp2; go_ret; exact ⟨rfl, rfl⟩
end
section
variable {w : World} {base b m : Nat} {s : M.S} {f : Int → Option K}
def TlOut (w : World) (base b m : Nat) (s : M.S) (f : Int → Option K) (k : Int) (v : ByteArray) (e : Ending) (w' : World) : Prop := ∃ f', e = .returned (.bool (M.may s k v)) ∧ LI w' base b m (M.ts s k v) f' ∧ Fr w (fpl b m f) w' (fpl b m f')
theorem tell_any (h : LI w base b m s f) (ok : M.Ok s) (k : Int) (hk : (Lit.int .i64 k).wf = true) (v : ByteArray) (hc : s.c ≤ 900000) : Calls prog 108 #[.pointer (some ⟨b, 0, none⟩), .int .i64 k, .string v] w (TlOut w base b m s f k v) := by
 have cm := mayTell_any h k hk v; cases hm : M.may s k v with
 | false =>
  rw [hm] at cm; have HQ : Hid (TlOut w base b m s f k v (.returned (.bool false)) w) := ⟨f, by rw [hm], by unfold M.ts; rw [hm]; exact h, Fr.refl _ _⟩; clear h hm; go_enter func108, ntmps108; go_wp2_with fail; refine cm.mono ?_; rintro e w1 ⟨rfl, rfl⟩; go_wp2; go_ret; exact HQ.out
 | true =>
  rw [hm] at cm; obtain ⟨m1, m2, m3, m4⟩ := M.may_yes hm; have cc := fun w1 => sclone_any v w1 (by omega); have HP : Hid (∀ w1, Below w.drew.heap.size w.drew w1 → ∃ w2, (Instr.mapUpdate 138 (.map (some m)) (.int .i64 k) (.agg #[.bool true, .string v, .slice none 0 0])).run prog w1 = .ok () w2 ∧ w2.heap[b]? = some (.cells #[.int .i64 s.n, .int .i64 s.base, .map (some m)] 140 (0, 0)) ∧ TlOut w base b m s f k v (.returned (.bool true)) w2) := by
   intro w1 hb1; have hB : Bl w w1 := Below.trans ((Below.refl _ _).drew) hb1; have h1 := h.keep hB; obtain ⟨w2, hrun, hmi, hmt⟩ := h1.mi.put k hk ⟨true, v, none⟩ (by unfold maxLen; omega); obtain ⟨h2, h3⟩ := h1.tell hmi hmt; exact ⟨w2, hrun, h2.row, ⟨_, by rw [hm], by unfold M.ts; rw [hm]; exact h2, (Fr.ofBelow hB).trans h3⟩⟩
  have HI : Hid (w.drew.heap[b]? = some (.cells #[.int .i64 s.n, .int .i64 s.base, .map (some m)] 140 (0, 0))) := h.row; have HS : Hid (∀ wq : World, wq.heap[b]? = some (.cells #[.int .i64 s.n, .int .i64 s.base, .map (some m)] 140 (0, 0)) → (wq.cell? ⟨b, 0, none⟩ = some (.int .i64 s.n) ∧ wq.cell? ⟨b, 2, none⟩ = some (.map (some m)))) := fun wq hq => ⟨(row3 hq).1.1, (row3 hq).1.2.2⟩; clear h hm ok hc hk m1 m2 m3 m4; go_enter func108, ntmps108; go_wp2_with fail; refine cm.mono ?_; rintro e w1 ⟨rfl, rfl⟩; clear cm; go_wp2_with fail; refine wp_region_held_drew (S := fun wq => wq.heap[b]? = some (.cells #[.int .i64 s.n, .int .i64 s.base, .map (some m)] 140 (0, 0))) (by kernel_rfl) HI.out fun Hl => ?_; refine Tm 0 Hl ?_; refine Tm 1 Hl ?_; refine Tm 2 Hl ?_; refine Tj 3 Hl ?_; refine Tm 4 Hl ?_; refine Tm 5 Hl ?_; simp only [Act.put, Pz]; refine Rd 6 ?pG ?sG; intro K hK; go_simp; refine (cc _).mono ?_; rintro e w1 ⟨rfl, hb1⟩; have hs1 := Br Hl hb1; obtain ⟨w2, hput, hrow2, hq2⟩ := HP.out w1 hb1; have HQ := Hf hq2; clear hq2 hb1; refine hK.out _ _ hs1 fun Hl => ?_; refine Tm 7 Hl ?_; simp only [Act.put, Pz]; refine Rd 8 ?pI ?sI; intro K hK; go_simp; refine hK.out _ _ hrow2 fun Hl => ?_; refine Wd ?_; go_wp2; go_ret; exact HQ.out
theorem hi123 : prog.info? 205 = some Tryz.t205 := by kernel_rfl
theorem rep_cells : ∀ n, wl.cells (List.replicate n M.w0) = (List.range (n * 4)).map (fun i => (#[Value.bool false, Value.int .i64 0, Value.int .i64 0, Value.string ⟨#[]⟩])[i % 4]!)
 | 0 => rfl
 | n + 1 => by
  rw [List.replicate_succ', Ly.app, rep_cells n, show (n + 1) * 4 = n * 4 + 1 + 1 + 1 + 1 by omega, List.range_succ, List.range_succ, List.range_succ, List.range_succ, List.map_append, List.map_append, List.map_append, List.map_append, List.append_assoc, List.append_assoc, List.append_assoc]; have e1 : n * 4 % 4 = 0 := by omega
  have e2 : (n * 4 + 1) % 4 = 1 := by omega
  have e3 : (n * 4 + 1 + 1) % 4 = 2 := by omega
  have e4 : (n * 4 + 1 + 1 + 1) % 4 = 3 := by omega
  simp only [List.map_cons, List.map_nil, e1, e2, e3, e4]; rfl
theorem made (n : Nat) : madeCells (Value.agg #[.bool false, .int .i64 0, .int .i64 0, .string ⟨#[]⟩]).cells (n * 4) = (wl.cells (List.replicate n M.w0)).toArray := by
 rw [rep_cells]; apply Array.ext'; unfold madeCells; rw [Array.toList_map, Array.toList_range]; rfl
theorem run_mk (n : Nat) (hn : n ≤ 7) (w : World) : (Instr.makeSlice 158 (.int .i64 (n : Int)) (.int .i64 (n : Int))).run prog w = .ok (.slice (some ⟨w.heap.size, 0, none⟩) n n) (w.alloc (.cells (wl.cells (List.replicate n M.w0)).toArray 205)) := by
 have h := run_make (P := prog) w 158 205 Tryz.t205 (.agg #[.bool false, .int .i64 0, .int .i64 0, .string ⟨#[]⟩]) underlying158 hi123 rfl .i64 .i64 (n : Int) (n : Int) (by omega) (by omega) (by show (40 : Int) * _ ≤ _; omega) (by omega); rw [show Tryz.t205.size = 4 from rfl, Int.toNat_natCast, made] at h; exact h
def VtOut (w : World) (base b m : Nat) (s : M.S) (f : Int → Option K) (k : Int) (e : Ending) (w' : World) : Prop := ∃ f' g, e = .returned (.slice (some ⟨g, 0, none⟩) s.n.toNat s.n.toNat) ∧ bk f' k = some g ∧ LI w' base b m (M.rws s k) f' ∧ Fr w (fpl b m f) w' (fpl b m f')
theorem votes_any (h : LI w base b m s f) (ok : M.Ok s) (k : Int) (hk : (Lit.int .i64 k).wf = true) (ht : s.td k = none) (hc : s.c ≤ 900000) : Calls prog 130 #[.pointer (some ⟨b, 0, none⟩), .int .i64 k] w (VtOut w base b m s f k) := by
 obtain ⟨c0, _⟩ := row3 h.row; have hlk := h.look k hk; have hN := ok.n; have hnn : ((s.n.toNat : Nat) : Int) = s.n := by omega
 by_cases hv : s.vs k = []
 ·rw [h.un k ht hv] at hlk
  replace hlk : (Instr.lookup 138 (.map (some m)) (.int .i64 k) false).run prog w = .ok (.agg #[.bool false, .string ⟨#[]⟩, .slice none 0 0]) w := hlk
  have fc := field104c false ⟨#[]⟩ (.slice none 0 0); have HP : Hid (∀ w1, Bl w w1 → ∀ g, w.heap.size ≤ g → w1.heap[g]? = some (.cells (wl.cells (List.replicate s.n.toNat M.w0)).toArray 205 (0, 0)) → ∃ w2, (Instr.mapUpdate 138 (.map (some m)) (.int .i64 k) (.agg #[.bool false, .string ⟨#[]⟩, .slice (some ⟨g, 0, none⟩) s.n.toNat s.n.toNat])).run prog w1 = .ok () w2 ∧ w2.heap[b]? = some (.cells #[.int .i64 s.n, .int .i64 s.base, .map (some m)] 140 (0, 0)) ∧ (Instr.lookup 138 (.map (some m)) (.int .i64 k) false).run prog w2 = .ok (.agg #[.bool false, .string ⟨#[]⟩, .slice (some ⟨g, 0, none⟩) s.n.toNat s.n.toNat]) w2 ∧ VtOut w base b m s f k (.returned (.slice (some ⟨g, 0, none⟩) s.n.toNat s.n.toNat)) w2) := by
   intro w1 hb1 g hg hr1; have h1 := h.keep hb1; obtain ⟨w2, hrun, hmi, hmt⟩ := h1.mi.put k hk ⟨false, ⟨#[]⟩, some (g, s.n.toNat, s.n.toNat)⟩ (by unfold maxLen; omega); obtain ⟨h2, h3⟩ := h.make ht hv hb1 hr1 hg (Nat.le_trans h.lo.1 (Nat.le_of_lt h.lt)) hmi hmt hN.1; have hl2 := h2.look k hk; rw [M.fup_same] at hl2; have hr2 := h2.row; obtain ⟨r1, r2, r3, r4, r5⟩ := M.rws_td s k; rw [r2, r3] at hr2; exact ⟨w2, hrun, hr2, hl2, ⟨_, g, rfl, by rw [bk_fup_same]; rfl, h2, h3⟩⟩
  have HI : Hid (w.drew.heap[b]? = some (.cells #[.int .i64 s.n, .int .i64 s.base, .map (some m)] 140 (0, 0))) := h.row; have HG := Hf hnn; have hmk := fun w => run_mk s.n.toNat (by omega) w; rw [hnn] at hmk; have HS : Hid (∀ wq : World, wq.heap[b]? = some (.cells #[.int .i64 s.n, .int .i64 s.base, .map (some m)] 140 (0, 0)) → (wq.cell? ⟨b, 0, none⟩ = some (.int .i64 s.n) ∧ wq.cell? ⟨b, 2, none⟩ = some (.map (some m)))) := fun wq hq => ⟨(row3 hq).1.1, (row3 hq).1.2.2⟩; obtain ⟨nn, HNN⟩ := Nh (s.n.toNat); rw [HNN.out] at HP hmk; have fc2 := fun g => field104c false ⟨#[]⟩ (.slice (some ⟨g, 0, none⟩) nn nn); clear h ok hc hk ht hv hN hnn HG HNN; go_enter func130, ntmps130; go_wp2_with fail; refine Wm (fun wq => wq.heap[b]? = some (.cells #[.int .i64 s.n, .int .i64 s.base, .map (some m)] 140 (0, 0))) HI.out fun wdb hBwd Hl => ?_; refine Tm 0 Hl ?_; refine Tm 1 Hl ?_; refine Tm 2 Hl ?_; refine Tj 3 Hl ?_; refine Tm 4 Hl ?_; refine Tm 5 Hl ?_; refine Tm 6 Hl ?_; refine Tm 7 Hl ?_; refine Tj 8 Hl ?_; simp only [Act.put, Pz]; refine Rd 9 ?pS ?sS; intro K hK; go_simp; obtain ⟨W1, HW1⟩ := Nh (wdb.alloc (.cells (wl.cells (List.replicate nn M.w0)).toArray 205)); have hb1 := Ab HW1; have hr1 := Ac HW1; have hs1 := Br Hl hb1; obtain ⟨w2, hput, hrow2, hlk2, hq2⟩ := HP.out W1 (Bu hBwd hb1 Lr) wdb.heap.size hBwd.size hr1; have HQ := Hf hq2; rw [HW1.out]; clear hq2 hb1 HW1 hr1; refine hK.out _ _ hs1 fun Hl => ?_; refine Tm 10 Hl ?_; simp only [Act.put, Pz]; refine Rd 11 ?pU ?sU
  intro K hK; go_simp; refine hK.out _ _ hrow2 fun Hl => ?_; refine Wd ?_; obtain a0 := HS.out _ Hl; go_wp2; go_ret; exact HQ.out
 ·obtain ⟨g, g1, g2, g3⟩ := h.vo k ht hv; have hln : (s.vs k).length = s.n.toNat := by
   rcases ok.len k with e | e
   ·exact absurd e hv
   ·exact e
  have hr : M.rws s k = s := by unfold M.rws; rw [if_neg (by omega)]
  rw [g1, hln] at hlk
  replace hlk : (Instr.lookup 138 (.map (some m)) (.int .i64 k) false).run prog w = .ok (.agg #[.bool false, .string ⟨#[]⟩, .slice (some ⟨g, 0, none⟩) s.n.toNat s.n.toNat]) w := hlk
  have HQ : Hid (VtOut w base b m s f k (.returned (.slice (some ⟨g, 0, none⟩) s.n.toNat s.n.toNat)) w) := ⟨f, g, rfl, bk_some g1, by rw [hr]; exact h, Fr.refl _ _⟩; have hne : ¬ ((s.n.toNat : Nat) : Int) = 0 := by omega
  clear h ok hc hk ht hv hN hnn g1 g2 g3 hln hr; generalize s.n.toNat = nn at *; have fc := field104c false ⟨#[]⟩ (.slice (some ⟨g, 0, none⟩) nn nn); go_enter func130, ntmps130; go_wp2; go_ret; exact HQ.out
end
end Go.Proofs.YtgodnpngdbelhaaGreat.Nl
