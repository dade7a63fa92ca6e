/-
  The map of the votes by their slots.
-/
import Derived.Test.YtfjlanhekheecaaA
import Derived.Test.YtfjlanhekheecaaPPM
import Derived.Maps.OwnSet
namespace Go.Proofs.Ytfjlanhekheecaa.Np
open Go.RowKit Go.Maps
set_option linter.unusedVariables false
open Go.Proofs.Ytfjlanhekheecaa.M (E V)
open Go.Proofs.Ytfjlanhekheecaa.Np.M (fup)

/-- A vote, and a ballot, as values. -/
abbrev bV (x : E) : Value := .agg #[.int .i64 x.i, .int .i64 x.t]
abbrev vV (x : V) : Value := .agg #[.int .i64 x.s, .int .i64 x.b.i, .int .i64 x.b.t, .string x.v]
/-- How a vote reads. -/
def oenc (x : V) : DataW Unit := .agg [.lit (.int .i64 x.s), .lit (.int .i64 x.b.i), .lit (.int .i64 x.b.t), .lit (.string x.v.data.toList)]
def outR : Value → Option (DataW Unit × List MemPlace)
  | .agg ⟨[.int .i64 a, .int .i64 b, .int .i64 c, .string s]⟩ => some (oenc ⟨a, ⟨b, c⟩, s⟩, [])
  | _ => none
theorem outR_mk (p : V) : outR (vV p) = some (oenc p, []) := rfl
theorem oenc_inj {p q : V} (h : oenc p = oenc q) : p = q := by
  obtain ⟨a, ⟨b, c⟩, s⟩ := p
  obtain ⟨a', ⟨b', c'⟩, t⟩ := q
  simp only [oenc, DataW.agg.injEq, List.cons.injEq, DataW.lit.injEq, Lit.int.injEq, Lit.string.injEq, and_true, true_and] at h
  obtain ⟨rfl, rfl, rfl, h2⟩ := h
  have : s = t := by
    apply ByteArray.ext
    exact Array.ext' h2
  rw [this]
theorem outR_inv {v : Value} {p : V} {ps : List MemPlace} (h : outR v = some (oenc p, ps)) : v = vV p := by
  unfold outR at h
  split at h
  · simp only [Option.some.injEq, Prod.mk.injEq] at h
    have := oenc_inj h.1
    subst this
    rfl
  · cases h
theorem law3 : Keyed Try.prog 3 := int_keyed Try.underlying3
def zo : V := ⟨0, ⟨0, 0⟩, ⟨#[]⟩⟩
theorem zero42 (w : World) : (zeroValue 42).run Try.prog w = .ok (vV zo) w := by kernel_rfl
/-- A map at block m that tells of each number its vote. -/
def MI (w : World) (m n : Nat) (f : Int → Option V) : Prop := ∃ D : DataW Unit, w.ownsMap Try.prog 3 outR m n D ∧ ∀ k, D.atKey (.int .i64 k) (oenc zo) = oenc ((f k).getD zo) ∧ Maps.has D (.int .i64 k) = (f k).isSome
/-- Nothing has changed but the map. -/
structure MT (w : World) (m : Nat) (w' : World) : Prop where
  os : w'.os = w.os
  tape : w'.tape = w.tape
  output : w'.output = w.output
  size : w'.heap.size = w.heap.size
  block : ∀ k, k ≠ m → w'.heap[k]? = w.heap[k]?
  frozen : ∀ a, w'.frozen? a = w.frozen? a
theorem MT.of {w w' : World} {m : Nat} (h : w.mapTurned w' m) : MT w m w' := by
  have hf := fun a => h.frozen a
  obtain ⟨es, clock, es', clock', hb, rfl⟩ := h
  exact ⟨rfl, rfl, rfl, by simp [ChangeMaps.setBlock], fun k hk => ChangeMaps.heap_setBlock_other hb _ hk, hf⟩
section
variable {w w' : World} {m n : Nat} {f : Int → Option V}
theorem MI.keep (h : MI w m n f) (hk : w'.heap[m]? = w.heap[m]?) : MI w' m n f := by
  obtain ⟨D, ⟨es, clock, hb, rest⟩, hD⟩ := h
  exact ⟨D, ⟨es, clock, hk.trans hb, rest⟩, hD⟩
theorem MI.lt (h : MI w m n f) : m < w.heap.size := by
  obtain ⟨D, h, _⟩ := h
  exact h.lt
theorem MI.ne (h : MI w m n f) {b : Nat} {cs : Array Value} {t : TypeId} {z : Nat × Nat} (hb : w.heap[b]? = some (.cells cs t z)) : b ≠ m := by
  obtain ⟨D, ⟨es, clock, hm, _⟩, _⟩ := h
  intro e
  subst e
  rw [hm] at hb
  cases hb
theorem MI.look (h : MI w m n f) (k : Int) (hk : (Lit.int .i64 k).wf = true) : (Instr.lookup 79 (.map (some m)) (.int .i64 k) false).run Try.prog w = .ok (vV ((f k).getD zo)) w := by
  obtain ⟨D, h, hD⟩ := h
  obtain ⟨v, ps, hrun, hv⟩ := h.lookup law3 Try.underlying79 (zero42 w) (zd := oenc zo) (zp := []) rfl (keyOf_int_mk Try.underlying3 hk)
  rw [(hD k).1] at hv
  rw [hrun, outR_inv hv]
theorem MI.lookOk (h : MI w m n f) (k : Int) (hk : (Lit.int .i64 k).wf = true) : (Instr.lookup 79 (.map (some m)) (.int .i64 k) true).run Try.prog w = .ok (.tuple #[vV ((f k).getD zo), .bool (f k).isSome]) w := by
  obtain ⟨D, h, hD⟩ := h
  obtain ⟨v, ps, hrun, hv⟩ := h.look_ok law3 Try.underlying79 (zero42 w) (zd := oenc zo) (zp := []) rfl (keyOf_int_mk Try.underlying3 hk)
  rw [(hD k).1] at hv
  rw [hrun, outR_inv hv, (hD k).2]
theorem lit_ne {j k : Int} (h : j ≠ k) : (Lit.int .i64 j) ≠ (Lit.int .i64 k) := fun e => h (by cases e; rfl)
theorem MI.put (h : MI w m n f) (k : Int) (hk : (Lit.int .i64 k).wf = true) (p : V) (hn : n < maxLen) :
    ∃ w', (Instr.mapUpdate 79 (.map (some m)) (.int .i64 k) (vV p)).run Try.prog w = .ok () w' ∧ MI w' m (n + 1) (fup f k (some p)) ∧ MT w m w' := by
  obtain ⟨D, h, hD⟩ := h
  obtain ⟨w', hrun, h', ht⟩ := h.store law3 Try.underlying79 hn (keyOf_int_mk Try.underlying3 hk) (outR_mk p)
  refine ⟨w', hrun, ⟨_, h', fun j => ?_⟩, MT.of ht⟩
  unfold fup
  by_cases hj : j = k
  · subst hj
    rw [if_pos rfl, atKey_put_same h.isMap (law3.key (keyOf_int_mk Try.underlying3 hk)), Maps.has_put_same h.isMap (law3.key (keyOf_int_mk Try.underlying3 hk))]
    exact ⟨rfl, rfl⟩
  · rw [if_neg hj, atKey_put_other (lit_ne hj), Maps.has_put_other (lit_ne hj)]
    exact hD j
theorem MI.made (w : World) : MI (w.alloc (.map #[] 0)) w.heap.size 0 (fun _ => none) := ⟨_, World.ownsMap_made _ _ _ _, fun _ => ⟨rfl, rfl⟩⟩
end
end Go.Proofs.Ytfjlanhekheecaa.Np
