/-
  The map of links that are cut.
-/
import Derived.Test.YtjbodjjeenjbeaaNJ
import Derived.Maps.OwnSet
import Derived.DeepKeys4
namespace Go.Proofs.Ytjbodjjeenjbeaa
open Go.RowKit Go.Maps
set_option linter.unusedVariables false
open Nt (Pk)

/-- A link as a value. -/
def kv (x y : Int) : Value := .agg #[.int .i64 x, .int .i64 y]
def Wf (x : Int) : Prop := -9223372036854775808 ≤ x ∧ x ≤ 9223372036854775807
theorem Wf.lit {x : Int} (h : Wf x) : (Lit.int .i64 x).wf = true := by
  have := h.1; have := h.2
  simp [Lit.wf, IntKind.min, IntKind.max, IntKind.bits, IntKind.signed]
  omega
theorem Wf.node {x : Int} (h : 0 ≤ x ∧ x < 64) : Wf x := ⟨by omega, by omega⟩
theorem row70 : (70 : TypeId) < Try.prog.types.size := of_decide_eq_true (by kernel_rfl)
theorem wide70 : (match Try.prog.underlying 70 with | some (.array _ _) | some (.struct _) => true | _ => false) = true := by rw [Try.underlying70]
set_option maxRecDepth 100000 in
theorem law70 : Keyed Try.prog 70 := Keyed.of_law (deep_law_laid laidOut (m := 2) (by omega) row70 (by kernel_rfl) wide70)
theorem size_types : Try.prog.types.size = 156 := by kernel_rfl
theorem cells70 : Try.prog.cellsOf 70 = 2 := by kernel_rfl
theorem ktype70 : Try.prog.keyType 70 = true := by kernel_rfl
theorem lits3 (d : Nat) {x : Int} (hx : Wf x) : Try.prog.keyLits (d + 1) 3 [.int .i64 x] = some [.int .i64 x] := by
  simp [Program.keyLits, Try.underlying3, hx.lit]
theorem lits70 (d : Nat) {x y : Int} (hx : Wf x) (hy : Wf y) : Try.prog.keyLits (d + 2) 70 [.int .i64 x, .int .i64 y] = some [.int .i64 x, .int .i64 y] := by
  unfold Program.keyLits
  rw [Try.underlying70]
  simp [cells70, Try.cells3, lits3 d hx, lits3 d hy]
theorem key70 {x y : Int} (hx : Wf x) (hy : Wf y) : ∃ kl, keyOf Try.prog 70 (kv x y) = some kl := by
  have hf : (kv x y).formed Try.prog 70 = true := by simp [kv, Value.formed, Try.underlying70, cells70]
  unfold keyOf
  rw [Try.underlying70]
  have hl : Try.prog.keyLits (Try.prog.types.size + 1) 70 (kv x y).cells.toList = some [.int .i64 x, .int .i64 y] := by
    rw [size_types]
    exact lits70 155 hx hy
  simp only [ktype70, hf, hl, Bool.and_true, Option.map_some, if_true]
  exact ⟨_, rfl⟩
theorem kv_inj {x y u v : Int} (h : kv x y = kv u v) : x = u ∧ y = v := by
  simpa [kv] using h
/-- How what a link tells reads: it is nothing. -/
def noR : Value → Option (DataW Unit × List MemPlace)
  | .agg ⟨[]⟩ => some (.nil, [])
  | _ => none
theorem noR_inv {v : Value} {z : DataW Unit × List MemPlace} (h : noR v = some z) : v = .agg #[] := by
  unfold noR at h
  split at h
  · rfl
  · cases h
theorem zero79 (w : World) : (zeroValue 79).run Try.prog w = .ok (.agg #[]) w := by kernel_rfl
/-- A map at block m that tells of each link whether it is cut. -/
def MI (w : World) (m n : Nat) (C : Int → Int → Bool) : Prop := ∃ D : DataW Unit, w.ownsMap Try.prog 70 noR m n D ∧ ∀ x y kl, keyOf Try.prog 70 (kv x y) = some kl → Maps.has D kl = C x y
/-- Nothing has changed but the map. -/
structure MT (w : World) (m : Nat) (w' : World) : Prop where
  os : w'.os = w.os
  tape : w'.tape = w.tape
  output : w'.output = w.output
  size : w'.heap.size = w.heap.size
  block : ∀ k, k ≠ m → w'.heap[k]? = w.heap[k]?
  frozen : ∀ a, w'.frozen? a = w.frozen? a
theorem MT.of {w w' : World} {m : Nat} (h : w.mapTurned w' m) : MT w m w' := by
  have hf := fun a => h.frozen a
  obtain ⟨es, clock, es', clock', hb, rfl⟩ := h
  exact ⟨rfl, rfl, rfl, by simp [ChangeMaps.setBlock], fun k hk => ChangeMaps.heap_setBlock_other hb _ hk, hf⟩
theorem MI.keep {w w' : World} {m n : Nat} {C : Int → Int → Bool} (h : MI w m n C) (hk : w'.heap[m]? = w.heap[m]?) : MI w' m n C := by
  obtain ⟨D, ⟨es, clock, hb, rest⟩, hD⟩ := h
  exact ⟨D, ⟨es, clock, hk.trans hb, rest⟩, hD⟩
theorem MI.lt {w : World} {m n : Nat} {C : Int → Int → Bool} (h : MI w m n C) : m < w.heap.size := by
  obtain ⟨D, h, _⟩ := h
  exact h.lt
theorem MI.ne {w : World} {m n : Nat} {C : Int → Int → Bool} (h : MI w m n C) {b : Nat} {cs : Array Value} {t : TypeId} {z : Nat × Nat} (hb : w.heap[b]? = some (.cells cs t z)) : b ≠ m := by
  obtain ⟨D, ⟨es, clock, hm, _⟩, _⟩ := h
  intro e
  subst e
  rw [hm] at hb
  cases hb
theorem MI.look {w : World} {m n : Nat} {C : Int → Int → Bool} (h : MI w m n C) {x y : Int} (hx : Wf x) (hy : Wf y) : (Instr.lookup 58 (.map (some m)) (kv x y) true).run Try.prog w = .ok (.tuple #[.agg #[], .bool (C x y)]) w := by
  obtain ⟨D, h, hD⟩ := h
  obtain ⟨kl, hk⟩ := key70 hx hy
  obtain ⟨v, ps, hrun, hv⟩ := h.look_ok law70 Try.underlying58 (zero79 w) (zd := .nil) (zp := []) rfl hk
  rw [hrun, noR_inv hv, hD x y kl hk]
theorem MI.other {x y u v : Int} {kl kl' : Lit} (h : keyOf Try.prog 70 (kv x y) = some kl) (h' : keyOf Try.prog 70 (kv u v) = some kl') (hne : ¬ (u = x ∧ v = y)) : kl' ≠ kl := by
  intro e
  subst e
  obtain ⟨h1, h2⟩ := kv_inj (law70.inj h' h)
  exact hne ⟨h1, h2⟩
theorem cutC_other (C : Int → Int → Bool) {x y u v : Int} (on : Bool) (hne : ¬ (u = x ∧ v = y)) : Nt.cutC C x y on u v = C u v := by
  have e1 : (decide (u = x) && decide (v = y)) = false := by
    cases h1 : decide (u = x) && decide (v = y)
    · rfl
    · simp only [Bool.and_eq_true, decide_eq_true_eq] at h1
      exact absurd h1 hne
  unfold Nt.cutC
  rw [e1]
  rfl
theorem cutC_same (C : Int → Int → Bool) (x y : Int) (on : Bool) : Nt.cutC C x y on x y = on := by simp [Nt.cutC]
theorem MI.del {w : World} {m n : Nat} {C : Int → Int → Bool} (h : MI w m n C) {x y : Int} (hx : Wf x) (hy : Wf y) (ty : TypeId) :
    ∃ w', (Builtin.delete_ #[58, 70] ty #[.map (some m), kv x y]).run Try.prog w = .ok (.tuple #[]) w' ∧ MI w' m n (Nt.cutC C x y false) ∧ MT w m w' := by
  obtain ⟨D, h, hD⟩ := h
  obtain ⟨kl, hk⟩ := key70 hx hy
  obtain ⟨w', hrun, h', ht⟩ := h.drop law70 Try.underlying58 hk ty
  refine ⟨w', hrun, ⟨_, h', fun u v kl' hk' => ?_⟩, MT.of ht⟩
  by_cases e : u = x ∧ v = y
  · obtain ⟨rfl, rfl⟩ := e
    rw [hk] at hk'
    cases hk'
    rw [Maps.has_del_same, cutC_same]
  · rw [Maps.has_del_other (MI.other hk hk' e), cutC_other C false e]
    exact hD u v kl' hk'
theorem MI.put {w : World} {m n : Nat} {C : Int → Int → Bool} (h : MI w m n C) {x y : Int} (hx : Wf x) (hy : Wf y) (hn : n < maxLen) :
    ∃ w', (Instr.mapUpdate 58 (.map (some m)) (kv x y) (.agg #[])).run Try.prog w = .ok () w' ∧ MI w' m (n + 1) (Nt.cutC C x y true) ∧ MT w m w' := by
  obtain ⟨D, h, hD⟩ := h
  obtain ⟨kl, hk⟩ := key70 hx hy
  obtain ⟨w', hrun, h', ht⟩ := h.store law70 Try.underlying58 hn hk (show noR (.agg #[]) = some (.nil, []) from rfl)
  refine ⟨w', hrun, ⟨_, h', fun u v kl' hk' => ?_⟩, MT.of ht⟩
  by_cases e : u = x ∧ v = y
  · obtain ⟨rfl, rfl⟩ := e
    rw [hk] at hk'
    cases hk'
    rw [Maps.has_put_same h.isMap (law70.key hk), cutC_same]
  · rw [Maps.has_put_other (MI.other hk hk' e), cutC_other C true e]
    exact hD u v kl' hk'
theorem MI.made (w : World) : MI (w.alloc (.map #[] 0)) w.heap.size 0 (fun _ _ => false) := ⟨_, World.ownsMap_made _ _ _ _, fun _ _ _ _ => rfl⟩
end Go.Proofs.Ytjbodjjeenjbeaa
