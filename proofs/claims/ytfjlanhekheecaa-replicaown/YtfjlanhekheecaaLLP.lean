/-
  The map of what is known of slots.
-/
import Derived.Test.YtfjlanhekheecaaA
import Derived.Test.YtfjlanhekheecaaLLM
import Derived.Maps.OwnSet
namespace Go.Proofs.Ytfjlanhekheecaa.Nl
open Go.RowKit Go.Maps
set_option linter.unusedVariables false
open Go.Proofs.Ytfjlanhekheecaa.M (E V)
open Go.Proofs.Ytfjlanhekheecaa.Nl.M (W fup)

/-- What is known of a slot, as the map has it: told or not, its value, where the votes lie. -/
structure K where
  t : Bool
  v : ByteArray
  a : Option (Nat × Nat × Nat)
def svV : Option (Nat × Nat × Nat) → Value
  | none => .slice none 0 0
  | some (g, n, c) => .slice (some ⟨g, 0, none⟩) n c
def senc : Option (Nat × Nat × Nat) → DataW Unit
  | none => .agg []
  | some (g, n, c) => .agg [.lit (.int .i64 (g : Int)), .lit (.int .i64 (n : Int)), .lit (.int .i64 (c : Int))]
theorem senc_inj : ∀ {p q}, senc p = senc q → p = q
  | none, none, _ => rfl
  | none, some (g, n, c), h => by simp [senc] at h
  | some (g, n, c), none, h => by simp [senc] at h
  | some (g, n, c), some (g', n', c'), h => by
    simp only [senc, DataW.agg.injEq, List.cons.injEq, DataW.lit.injEq, Lit.int.injEq, and_true, true_and] at h
    obtain ⟨h1, h2, h3⟩ := h
    have : g = g' := by omega
    have : n = n' := by omega
    have : c = c' := by omega
    simp_all
abbrev kV (p : K) : Value := .agg #[.bool p.t, .string p.v, svV p.a]
def kenc (p : K) : DataW Unit := .agg [.lit (.bool p.t), .lit (.string p.v.data.toList), senc p.a]
theorem kenc_inj {p q : K} (h : kenc p = kenc q) : p = q := by
  obtain ⟨t, v, a⟩ := p
  obtain ⟨t', v', a'⟩ := q
  simp only [kenc, DataW.agg.injEq, List.cons.injEq, DataW.lit.injEq, Lit.bool.injEq, Lit.string.injEq, and_true] at h
  obtain ⟨rfl, h2, h3⟩ := h
  have hv : v = v' := by
    apply ByteArray.ext
    exact Array.ext' h2
  rw [hv, senc_inj h3]
def kR : Value → Option (DataW Unit × List MemPlace)
  | .agg ⟨[.bool t, .string s, .slice none 0 0]⟩ => some (kenc ⟨t, s, none⟩, [])
  | .agg ⟨[.bool t, .string s, .slice (some ⟨g, 0, none⟩) n c]⟩ => some (kenc ⟨t, s, some (g, n, c)⟩, [])
  | _ => none
theorem kR_mk : ∀ p, kR (kV p) = some (kenc p, [])
  | ⟨t, s, none⟩ => rfl
  | ⟨t, s, some (g, n, c)⟩ => rfl
theorem kR_shape {v : Value} {y : DataW Unit × List MemPlace} (h : kR v = some y) : ∃ p, v = kV p ∧ y = (kenc p, []) := by
  unfold kR at h
  split at h
  · rename_i t s; cases h; exact ⟨⟨t, s, none⟩, rfl, rfl⟩
  · rename_i t s g n c; cases h; exact ⟨⟨t, s, some (g, n, c)⟩, rfl, rfl⟩
  · cases h
theorem kR_inv {v : Value} {p : K} {ps : List MemPlace} (h : kR v = some (kenc p, ps)) : v = kV p := by
  obtain ⟨q, rfl, e⟩ := kR_shape h
  simp only [Prod.mk.injEq] at e
  rw [kenc_inj e.1]
theorem law3 : Keyed Try.prog 3 := int_keyed Try.underlying3
def k0 : K := ⟨false, ⟨#[]⟩, none⟩
theorem zero87 (w : World) : (zeroValue 87).run Try.prog w = .ok (kV k0) w := by kernel_rfl
/-- A map at block m that tells of each slot what is known. -/
def MI (w : World) (m n : Nat) (f : Int → Option K) : Prop := ∃ D : DataW Unit, w.ownsMap Try.prog 3 kR m n D ∧ ∀ k, D.atKey (.int .i64 k) (kenc k0) = kenc ((f k).getD k0) ∧ Maps.has D (.int .i64 k) = (f k).isSome
/-- Nothing has changed but the map. -/
structure MT (w : World) (m : Nat) (w' : World) : Prop where
  os : w'.os = w.os
  tape : w'.tape = w.tape
  output : w'.output = w.output
  size : w'.heap.size = w.heap.size
  block : ∀ k, k ≠ m → w'.heap[k]? = w.heap[k]?
theorem MT.of {w w' : World} {m : Nat} (h : w.mapTurned w' m) : MT w m w' := by
  obtain ⟨es, clock, es', clock', hb, rfl⟩ := h
  exact ⟨rfl, rfl, rfl, by simp [ChangeMaps.setBlock], fun k hk => ChangeMaps.heap_setBlock_other hb _ hk⟩
theorem MT.refl (w : World) (m : Nat) : MT w m w := ⟨rfl, rfl, rfl, rfl, fun _ _ => rfl⟩
theorem MT.trans {w w1 w2 : World} {m : Nat} (h : MT w m w1) (k : MT w1 m w2) : MT w m w2 := ⟨k.os.trans h.os, k.tape.trans h.tape, k.output.trans h.output, k.size.trans h.size, fun j hj => (k.block j hj).trans (h.block j hj)⟩
theorem MT.drew {w w1 : World} {m : Nat} (h : MT w m w1) : MT w m w1.drew := ⟨h.os, h.tape, h.output, h.size, h.block⟩
section
variable {w w' : World} {m n : Nat} {f : Int → Option K}
theorem MI.keep (h : MI w m n f) (hk : w'.heap[m]? = w.heap[m]?) : MI w' m n f := by
  obtain ⟨D, ⟨es, clock, hb, rest⟩, hD⟩ := h
  exact ⟨D, ⟨es, clock, hk.trans hb, rest⟩, hD⟩
theorem MI.lt (h : MI w m n f) : m < w.heap.size := by
  obtain ⟨D, h, _⟩ := h
  exact h.lt
theorem MI.ne (h : MI w m n f) {b : Nat} {cs : Array Value} {t : TypeId} {z : Nat × Nat} (hb : w.heap[b]? = some (.cells cs t z)) : b ≠ m := by
  obtain ⟨D, ⟨es, clock, hm, _⟩, _⟩ := h
  intro e
  subst e
  rw [hm] at hb
  cases hb
theorem MI.look (h : MI w m n f) (k : Int) (hk : (Lit.int .i64 k).wf = true) : (Instr.lookup 82 (.map (some m)) (.int .i64 k) false).run Try.prog w = .ok (kV ((f k).getD k0)) w := by
  obtain ⟨D, h, hD⟩ := h
  obtain ⟨v, ps, hrun, hv⟩ := h.lookup law3 Try.underlying82 (zero87 w) (zd := kenc k0) (zp := []) rfl (keyOf_int_mk Try.underlying3 hk)
  rw [(hD k).1] at hv
  rw [hrun, kR_inv hv]
theorem lit_ne {j k : Int} (h : j ≠ k) : (Lit.int .i64 j) ≠ (Lit.int .i64 k) := fun e => h (by cases e; rfl)
theorem MI.put (h : MI w m n f) (k : Int) (hk : (Lit.int .i64 k).wf = true) (p : K) (hn : n < maxLen) :
    ∃ w', (Instr.mapUpdate 82 (.map (some m)) (.int .i64 k) (kV p)).run Try.prog w = .ok () w' ∧ MI w' m (n + 1) (fup f k (some p)) ∧ MT w m w' := by
  obtain ⟨D, h, hD⟩ := h
  obtain ⟨w', hrun, h', ht⟩ := h.store law3 Try.underlying82 hn (keyOf_int_mk Try.underlying3 hk) (kR_mk p)
  refine ⟨w', hrun, ⟨_, h', fun j => ?_⟩, MT.of ht⟩
  unfold fup
  by_cases hj : j = k
  · subst hj
    rw [if_pos rfl, atKey_put_same h.isMap (law3.key (keyOf_int_mk Try.underlying3 hk)), Maps.has_put_same h.isMap (law3.key (keyOf_int_mk Try.underlying3 hk))]
    exact ⟨rfl, rfl⟩
  · rw [if_neg hj, atKey_put_other (lit_ne hj), Maps.has_put_other (lit_ne hj)]
    exact hD j
theorem MI.del (h : MI w m n f) (k : Int) (hk : (Lit.int .i64 k).wf = true) (ty : TypeId) :
    ∃ w', (Builtin.delete_ #[82, 3] ty #[.map (some m), .int .i64 k]).run Try.prog w = .ok (.tuple #[]) w' ∧ MI w' m n (fup f k none) ∧ MT w m w' := by
  obtain ⟨D, h, hD⟩ := h
  obtain ⟨w', hrun, h', ht⟩ := h.drop law3 Try.underlying82 (keyOf_int_mk Try.underlying3 hk) ty
  refine ⟨w', hrun, ⟨_, h', fun j => ?_⟩, MT.of ht⟩
  unfold fup
  by_cases hj : j = k
  · subst hj
    rw [if_pos rfl, atKey_del_same, Maps.has_del_same]
    exact ⟨rfl, rfl⟩
  · rw [if_neg hj, atKey_del_other (lit_ne hj), Maps.has_del_other (lit_ne hj)]
    exact hD j
theorem MI.made (w : World) : MI (w.alloc (.map #[] 0)) w.heap.size 0 (fun _ => none) := ⟨_, World.ownsMap_made _ _ _ _, fun _ => ⟨rfl, rfl⟩⟩
end
/-- How a vote that was heard lies. -/
def wl : Ly W := ⟨4, fun x => [.bool x.g, .int .i64 x.b.i, .int .i64 x.b.t, .string x.v], fun _ => rfl, fun x v h => by simp at h; rcases h with rfl | rfl | rfl | rfl <;> rfl, by decide⟩
abbrev wV (x : W) : Value := .agg #[.bool x.g, .int .i64 x.b.i, .int .i64 x.b.t, .string x.v]
/-- The block of what a slot's votes lie in. -/
def bk (f : Int → Option K) (k : Int) : Option Nat := match f k with
  | some p => p.a.map Prod.fst
  | none => none
theorem bk_some {f : Int → Option K} {k : Int} {p : K} (h : f k = some p) : bk f k = p.a.map Prod.fst := by unfold bk; rw [h]
theorem bk_none {f : Int → Option K} {k : Int} (h : f k = none) : bk f k = none := by unfold bk; rw [h]
theorem bk_fup_same (f : Int → Option K) (k : Int) (p : Option K) : bk (fup f k p) k = (match p with | some p => p.a.map Prod.fst | none => none) := by unfold bk; rw [M.fup_same]
theorem bk_fup_other {f : Int → Option K} {k j : Int} (p : Option K) (h : j ≠ k) : bk (fup f k p) j = bk f j := by unfold bk; rw [M.fup_other _ h]
/-- What is a learner's own: its block, its map's, those of the votes. -/
def fpl (b m : Nat) (f : Int → Option K) (k : Nat) : Prop := k = b ∨ k = m ∨ ∃ c, bk f c = some k
/-- A learner at block b. -/
structure LI (w : World) (base b m : Nat) (s : M.S) (f : Int → Option K) : Prop where
  row : w.heap[b]? = some (.cells #[.int .i64 s.n, .int .i64 s.base, .map (some m)] 84 (0, 0))
  mi : MI w m s.c f
  td : ∀ k v, s.td k = some v → f k = some ⟨true, v, none⟩
  un : ∀ k, s.td k = none → s.vs k = [] → f k = none
  vo : ∀ k, s.td k = none → s.vs k ≠ [] → ∃ g, f k = some ⟨false, ⟨#[]⟩, some (g, (s.vs k).length, (s.vs k).length)⟩ ∧ w.heap[g]? = some (.cells (wl.cells (s.vs k)).toArray 123 (0, 0)) ∧ base ≤ g
  ap : ∀ k j g, bk f k = some g → bk f j = some g → k = j
  lo : base ≤ b ∧ base ≤ m
theorem row3 {w : World} {k : Nat} {v0 v1 v2 : Value} {t : TypeId} (h : w.heap[k]? = some (.cells #[v0, v1, v2] t (0, 0))) :
    (w.cell? ⟨k, 0, none⟩ = some v0 ∧ w.cell? ⟨k, 1, none⟩ = some v1 ∧ w.cell? ⟨k, 2, none⟩ = some v2) ∧ ∀ j, w.frozen? ⟨k, j, none⟩ = false :=
  ⟨⟨by rw [cell_of_row w k 0 _ _ _ h]; rfl, by rw [cell_of_row w k 1 _ _ _ h]; rfl, by rw [cell_of_row w k 2 _ _ _ h]; rfl⟩, fun j => frozen_of_row w k j _ _ h⟩
section
variable {w w' : World} {base b m : Nat} {s : M.S} {f : Int → Option K}
theorem LI.lt (h : LI w base b m s f) : b < w.heap.size := (Array.getElem?_eq_some_iff.1 h.row).1
theorem LI.bm (h : LI w base b m s f) : b ≠ m := h.mi.ne h.row
theorem LI.bk (h : LI w base b m s f) {k : Int} {g : Nat} (hg : Ytfjlanhekheecaa.Nl.bk f k = some g) : s.td k = none ∧ s.vs k ≠ [] ∧ f k = some ⟨false, ⟨#[]⟩, some (g, (s.vs k).length, (s.vs k).length)⟩ ∧ w.heap[g]? = some (.cells (wl.cells (s.vs k)).toArray 123 (0, 0)) ∧ base ≤ g := by
  cases ht : s.td k with
  | some v =>
    rw [bk_some (h.td k v ht)] at hg
    cases hg
  | none =>
    by_cases hv : s.vs k = []
    · rw [bk_none (h.un k ht hv)] at hg
      cases hg
    · obtain ⟨g', h1, h2, h3⟩ := h.vo k ht hv
      rw [bk_some h1] at hg
      cases hg
      exact ⟨rfl, hv, h1, h2, h3⟩
theorem LI.ne (h : LI w base b m s f) {k : Int} {g : Nat} (hg : Ytfjlanhekheecaa.Nl.bk f k = some g) : g ≠ b ∧ g ≠ m := by
  obtain ⟨_, _, _, h4, _⟩ := h.bk hg
  refine ⟨fun e => ?_, h.mi.ne h4⟩
  subst e
  rw [h.row] at h4
  simp at h4
theorem LI.mine (h : LI w base b m s f) : ∀ k, fpl b m f k → base ≤ k ∧ k < w.heap.size := by
  rintro k (rfl | rfl | ⟨c, e⟩)
  · exact ⟨h.lo.1, h.lt⟩
  · exact ⟨h.lo.2, h.mi.lt⟩
  · obtain ⟨_, _, _, h4, h5⟩ := h.bk e
    exact ⟨h5, (Array.getElem?_eq_some_iff.1 h4).1⟩
theorem LI.keepBut (h : LI w base b m s f) (hb : ∀ k, k < w.heap.size → fpl b m f k → w'.heap[k]? = w.heap[k]?) : LI w' base b m s f :=
  ⟨(hb b h.lt (.inl rfl)).trans h.row, h.mi.keep (hb m h.mi.lt (.inr (.inl rfl))), h.td, h.un, fun k h1 h2 => by
    obtain ⟨g, e1, e2, e3⟩ := h.vo k h1 h2
    exact ⟨g, e1, (hb g (Array.getElem?_eq_some_iff.1 e2).1 (.inr (.inr ⟨k, bk_some e1⟩))).trans e2, e3⟩, h.ap, h.lo⟩
theorem LI.keep (h : LI w base b m s f) (hb : Below w.heap.size w w') : LI w' base b m s f := h.keepBut fun k hk _ => hb.block k hk
/-- What is looked up. -/
theorem LI.look (h : LI w base b m s f) (k : Int) (hk : (Lit.int .i64 k).wf = true) : (Instr.lookup 82 (.map (some m)) (.int .i64 k) false).run Try.prog w = .ok (kV ((f k).getD k0)) w := h.mi.look k hk
/-- Is it told? -/
theorem LI.told (h : LI w base b m s f) (k : Int) : ((f k).getD k0).t = (s.td k).isSome := by
  cases ht : s.td k with
  | some v => rw [h.td k v ht]; rfl
  | none =>
    by_cases hv : s.vs k = []
    · rw [h.un k ht hv]; rfl
    · obtain ⟨g, h1, _⟩ := h.vo k ht hv
      rw [h1]; rfl
theorem LI.val (h : LI w base b m s f) (k : Int) : ((f k).getD k0).v = (s.td k).getD ⟨#[]⟩ := by
  cases ht : s.td k with
  | some v => rw [h.td k v ht]; rfl
  | none =>
    by_cases hv : s.vs k = []
    · rw [h.un k ht hv]; rfl
    · obtain ⟨g, h1, _⟩ := h.vo k ht hv
      rw [h1]; rfl
/-- A slot is told. -/
theorem LI.tell (h : LI w base b m s f) {k : Int} {v : ByteArray} (hM : MI w' m (s.c + 1) (fup f k (some ⟨true, v, none⟩))) (hT : MT w m w') : LI w' base b m (M.tl s k v) (fup f k (some ⟨true, v, none⟩)) ∧ Fr w (fpl b m f) w' (fpl b m (fup f k (some ⟨true, v, none⟩))) := by
  have hother : ∀ j g, Ytfjlanhekheecaa.Nl.bk (fup f k (some ⟨true, v, none⟩)) j = some g → Ytfjlanhekheecaa.Nl.bk f j = some g ∧ j ≠ k := fun j g e => by
    by_cases hj : j = k
    · subst hj
      rw [bk_fup_same] at e
      cases e
    · rw [bk_fup_other _ hj] at e
      exact ⟨e, hj⟩
  refine ⟨⟨(hT.block b h.bm).trans h.row, hM, fun j u e => ?_, fun j e e2 => ?_, fun j e e2 => ?_, fun j i g e1 e2 => h.ap j i g (hother j g e1).1 (hother i g e2).1, h.lo⟩, ⟨hT.os, hT.tape, hT.output, by rw [hT.size]; exact Nat.le_refl _, fun j _ hF => hT.block j (fun e => hF (.inr (.inl e))), fun j hj => ?_⟩⟩
  · have e' : fup s.td k (some v) j = some u := e
    by_cases hj : j = k
    · subst hj
      rw [M.fup_same] at e' ⊢
      cases e'
      rfl
    · rw [M.fup_other _ hj] at e' ⊢
      exact h.td j u e'
  · have e' : fup s.td k (some v) j = none := e
    have e2' : fup s.vs k [] j = [] := e2
    by_cases hj : j = k
    · subst hj
      rw [M.fup_same] at e'
      cases e'
    · rw [M.fup_other _ hj] at e' e2' ⊢
      exact h.un j e' e2'
  · have e' : fup s.td k (some v) j = none := e
    have e2' : fup s.vs k [] j ≠ [] := e2
    show ∃ g, fup f k (some ⟨true, v, none⟩) j = some ⟨false, ⟨#[]⟩, some (g, (fup s.vs k [] j).length, (fup s.vs k [] j).length)⟩ ∧ w'.heap[g]? = some (.cells (wl.cells (fup s.vs k [] j)).toArray 123 (0, 0)) ∧ base ≤ g
    by_cases hj : j = k
    · subst hj
      rw [M.fup_same] at e'
      cases e'
    · rw [M.fup_other _ hj] at e' e2' ⊢
      rw [M.fup_other _ hj]
      obtain ⟨g, g1, g2, g3⟩ := h.vo j e' e2'
      exact ⟨g, g1, (hT.block g (h.ne (bk_some g1)).2).trans g2, g3⟩
  · rcases hj with rfl | rfl | ⟨c, e⟩
    · exact .inl (.inl rfl)
    · exact .inl (.inr (.inl rfl))
    · exact .inl (.inr (.inr ⟨c, (hother c _ e).1⟩))
/-- A row of votes is made. -/
theorem LI.make (h : LI w base b m s f) {k : Int} {g : Nat} {w1 : World} (hk : s.td k = none) (hv : s.vs k = []) (hb : Below w.heap.size w w1) (hg : w1.heap[g]? = some (.cells (wl.cells (List.replicate s.n.toNat M.w0)).toArray 123 (0, 0))) (hn : w.heap.size ≤ g) (h0 : base ≤ w.heap.size)
    (hM : MI w' m (s.c + 1) (fup f k (some ⟨false, ⟨#[]⟩, some (g, s.n.toNat, s.n.toNat)⟩))) (hT : MT w1 m w') (h1 : 1 ≤ s.n) :
    LI w' base b m (M.rws s k) (fup f k (some ⟨false, ⟨#[]⟩, some (g, s.n.toNat, s.n.toNat)⟩)) ∧ Fr w (fpl b m f) w' (fpl b m (fup f k (some ⟨false, ⟨#[]⟩, some (g, s.n.toNat, s.n.toNat)⟩))) := by
  have hr : M.rws s k = { s with vs := fup s.vs k (List.replicate s.n.toNat M.w0), c := s.c + 1 } := by unfold M.rws; rw [hv]; rfl
  have hX := h.keep hb
  have hlt := h.mine
  have hgm : g ≠ m := hX.mi.ne hg
  have hoth : ∀ j q, Ytfjlanhekheecaa.Nl.bk (fup f k (some ⟨false, ⟨#[]⟩, some (g, s.n.toNat, s.n.toNat)⟩)) j = some q → (j = k ∧ q = g) ∨ (j ≠ k ∧ Ytfjlanhekheecaa.Nl.bk f j = some q) := fun j q e => by
    by_cases hj : j = k
    · subst hj
      rw [bk_fup_same] at e
      simp at e
      exact .inl ⟨rfl, e.symm⟩
    · rw [bk_fup_other _ hj] at e
      exact .inr ⟨hj, e⟩
  have hold : ∀ j q, Ytfjlanhekheecaa.Nl.bk f j = some q → q < w.heap.size := fun j q e => (hlt q (.inr (.inr ⟨j, e⟩))).2
  rw [hr]
  refine ⟨⟨(hT.block b h.bm).trans hX.row, hM, fun j u e => ?_, fun j e e2 => ?_, fun j e e2 => ?_, fun j i q e1 e2 => ?_, h.lo⟩, ⟨hT.os.trans hb.os, hT.tape.trans hb.tape, hT.output.trans hb.output, by rw [hT.size]; exact hb.size, fun j hj hF => (hT.block j (fun e => hF (.inr (.inl e)))).trans (hb.block j hj), fun j hj => ?_⟩⟩
  · have hj : j ≠ k := fun e2 => by
      subst e2
      have e' : s.td j = some u := e
      rw [hk] at e'
      cases e'
    rw [M.fup_other _ hj]
    exact h.td j u e
  · have e2' : fup s.vs k (List.replicate s.n.toNat M.w0) j = [] := e2
    by_cases hj : j = k
    · subst hj
      rw [M.fup_same] at e2'
      have := congrArg List.length e2'
      simp at this
      omega
    · rw [M.fup_other _ hj] at e2' ⊢
      exact h.un j e e2'
  · have e2' : fup s.vs k (List.replicate s.n.toNat M.w0) j ≠ [] := e2
    show ∃ q, fup f k (some ⟨false, ⟨#[]⟩, some (g, s.n.toNat, s.n.toNat)⟩) j = some ⟨false, ⟨#[]⟩, some (q, (fup s.vs k (List.replicate s.n.toNat M.w0) j).length, (fup s.vs k (List.replicate s.n.toNat M.w0) j).length)⟩ ∧ w'.heap[q]? = some (.cells (wl.cells (fup s.vs k (List.replicate s.n.toNat M.w0) j)).toArray 123 (0, 0)) ∧ base ≤ q
    by_cases hj : j = k
    · subst hj
      rw [M.fup_same, M.fup_same, List.length_replicate]
      exact ⟨g, rfl, (hT.block g hgm).trans hg, by omega⟩
    · rw [M.fup_other _ hj] at e2' ⊢
      rw [M.fup_other _ hj]
      obtain ⟨q, g1, g2, g3⟩ := hX.vo j e e2'
      exact ⟨q, g1, (hT.block q (h.ne (bk_some g1)).2).trans g2, g3⟩
  · rcases hoth j q e1 with ⟨a1, a2⟩ | ⟨a1, a2⟩ <;> rcases hoth i q e2 with ⟨b1, b2⟩ | ⟨b1, b2⟩
    · rw [a1, b1]
    · have := hold _ _ b2; omega
    · have := hold _ _ a2; omega
    · exact h.ap j i q a2 b2
  · rcases hj with rfl | rfl | ⟨c, e⟩
    · exact .inl (.inl rfl)
    · exact .inl (.inr (.inl rfl))
    · rcases hoth c j e with ⟨_, rfl⟩ | ⟨_, e⟩
      · exact .inr hn
      · exact .inl (.inr (.inr ⟨c, e⟩))
/-- A row of votes is another one. -/
theorem LI.rowed (h : LI w base b m s f) {k : Int} {g : Nat} {l : List W} (hk : Ytfjlanhekheecaa.Nl.bk f k = some g) (hl : l.length = (s.vs k).length) (hg : w'.heap[g]? = some (.cells (wl.cells l).toArray 123 (0, 0))) (hs : w.heap.size ≤ w'.heap.size) (ho : w'.os = w.os) (ht : w'.tape = w.tape) (hu : w'.output = w.output) (hb : ∀ j, j < w.heap.size → j ≠ g → w'.heap[j]? = w.heap[j]?) :
    LI w' base b m (M.sv s k l) f ∧ Fr w (fpl b m f) w' (fpl b m f) := by
  obtain ⟨t1, t2, t3, t4, t5⟩ := h.bk hk
  obtain ⟨n1, n2⟩ := h.ne hk
  refine ⟨⟨(hb b h.lt n1.symm).trans h.row, h.mi.keep (hb m h.mi.lt n2.symm), h.td, fun j e e2 => ?_, fun j e e2 => ?_, h.ap, h.lo⟩, ⟨ho, ht, hu, hs, fun j hj hF => hb j hj (fun e => hF (.inr (.inr ⟨k, by rw [e]; exact hk⟩))), fun j hj => .inl hj⟩⟩
  · have e2' : fup s.vs k l j = [] := e2
    by_cases hj : j = k
    · subst hj
      rw [M.fup_same] at e2'
      rw [e2'] at hl
      exact absurd (List.length_eq_zero_iff.1 hl.symm) t2
    · rw [M.fup_other _ hj] at e2'
      exact h.un j e e2'
  · have e2' : fup s.vs k l j ≠ [] := e2
    show ∃ q, f j = some ⟨false, ⟨#[]⟩, some (q, (fup s.vs k l j).length, (fup s.vs k l j).length)⟩ ∧ w'.heap[q]? = some (.cells (wl.cells (fup s.vs k l j)).toArray 123 (0, 0)) ∧ base ≤ q
    by_cases hj : j = k
    · subst hj
      rw [M.fup_same, hl]
      exact ⟨g, t3, hg, t5⟩
    · rw [M.fup_other _ hj] at e2' ⊢
      obtain ⟨q, g1, g2, g3⟩ := h.vo j e e2'
      have hq : q ≠ g := fun e3 => hj (h.ap j k g (by rw [bk_some g1, e3]; rfl) hk)
      exact ⟨q, g1, (hb q (Array.getElem?_eq_some_iff.1 g2).1 hq).trans g2, g3⟩
/-- Without what is told below a base. -/
def cutf (f : Int → Option K) (k j : Int) : Int → Option K := fun i => if k ≤ i ∧ i < j then none else f i
theorem cutf_nil (f : Int → Option K) (k : Int) : cutf f k k = f := by
  funext i
  unfold cutf
  rw [if_neg (by omega)]
theorem cutf_step (f : Int → Option K) {k j : Int} (h : k ≤ j) : fup (cutf f k j) j none = cutf f k (j + 1) := by
  funext i
  unfold cutf fup
  show (if i = j then none else (if k ≤ i ∧ i < j then none else f i)) = (if k ≤ i ∧ i < j + 1 then none else f i)
  by_cases hi : i = j
  · subst hi
    rw [if_pos rfl, if_pos (by omega)]
  · rw [if_neg hi]
    by_cases h1 : k ≤ i ∧ i < j
    · rw [if_pos h1, if_pos (by omega)]
    · rw [if_neg h1, if_neg (by omega)]
theorem LI.trim (h : LI w base b m s f) (ok : M.Ok s) (u : Int) {w1 : World} (hr : w1.heap[b]? = some (.cells #[.int .i64 s.n, .int .i64 (M.tb s u), .map (some m)] 84 (0, 0))) (ho : w1.os = w.os) (ht : w1.tape = w.tape) (hu : w1.output = w.output) (hs : w.heap.size ≤ w1.heap.size) (hb : ∀ j, j < w.heap.size → j ≠ b → w1.heap[j]? = w.heap[j]?)
    (hM : MI w' m s.c (cutf f s.base (M.tb s u))) (hT : MT w1 m w') : LI w' base b m (M.tr s u) (cutf f s.base (M.tb s u)) ∧ Fr w (fpl b m f) w' (fpl b m (cutf f s.base (M.tb s u))) := by
  obtain ⟨n1, n2, n3, n4⟩ := ok.nx
  have hB := ok.base
  have hle : s.base ≤ M.tb s u ∧ M.tb s u ≤ M.nx s := by unfold M.tb; omega
  have hsm : ∀ j g, Ytfjlanhekheecaa.Nl.bk (cutf f s.base (M.tb s u)) j = some g → Ytfjlanhekheecaa.Nl.bk f j = some g := fun j g e => by
    unfold Ytfjlanhekheecaa.Nl.bk cutf at e
    by_cases hj : s.base ≤ j ∧ j < M.tb s u
    · rw [if_pos hj] at e
      cases e
    · rw [if_neg hj] at e
      exact e
  refine ⟨⟨(hT.block b h.bm).trans hr, hM, fun j v e => ?_, fun j e e2 => ?_, fun j e e2 => ?_, fun j i g e1 e2 => h.ap j i g (hsm j g e1) (hsm i g e2), h.lo⟩, ⟨hT.os.trans ho, hT.tape.trans ht, hT.output.trans hu, by rw [hT.size]; exact hs, fun j hj hF => (hT.block j (fun e => hF (.inr (.inl e)))).trans (hb j hj (fun e => hF (.inl e))), fun j hj => ?_⟩⟩
  · have e' : (if j < M.tb s u then none else s.td j) = some v := e
    split at e'
    · cases e'
    · unfold cutf
      rw [if_neg (by omega)]
      exact h.td j v e'
  · have e' : (if j < M.tb s u then none else s.td j) = none := e
    unfold cutf
    by_cases hj : s.base ≤ j ∧ j < M.tb s u
    · rw [if_pos hj]
    · rw [if_neg hj]
      have ht : s.td j = none := by
        split at e'
        · cases hq : s.td j with
          | none => rfl
          | some v =>
            have := (ok.td j v hq).1
            omega
        · exact e'
      exact h.un j ht e2
  · have e' : (if j < M.tb s u then none else s.td j) = none := e
    have hj : ¬ (s.base ≤ j ∧ j < M.tb s u) := fun hj => e2 (ok.vs j (n1 j hj.1 (by omega)))
    have ht : s.td j = none := by
      split at e'
      · cases hq : s.td j with
        | none => rfl
        | some v =>
          have := (ok.td j v hq).1
          omega
      · exact e'
    unfold cutf
    rw [if_neg hj]
    obtain ⟨g, g1, g2, g3⟩ := h.vo j ht e2
    obtain ⟨m1, m2⟩ := h.ne (bk_some g1)
    exact ⟨g, g1, (hT.block g m2).trans ((hb g (Array.getElem?_eq_some_iff.1 g2).1 m1).trans g2), g3⟩
  · rcases hj with rfl | rfl | ⟨c, e⟩
    · exact .inl (.inl rfl)
    · exact .inl (.inr (.inl rfl))
    · exact .inl (.inr (.inr ⟨c, hsm c _ e⟩))
end
end Go.Proofs.Ytfjlanhekheecaa.Nl
