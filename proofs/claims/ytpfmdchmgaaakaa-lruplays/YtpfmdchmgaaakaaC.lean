/-
  The map of what is kept.
-/
import Derived.Test.YtpfmdchmgaaakaaA
import Derived.Maps.OwnSet
namespace Go.Proofs.Ytpfmdchmgaaakaa
open Go.RowKit Go.Maps
set_option linter.unusedVariables false
open M (K)

/-- How a pointer to an entry reads: by its block. -/
def dt : Option Nat → DataW Unit
  | none => .nil
  | some b => .lit (.int .i64 b)
def ptrR : Value → Option (DataW Unit × List MemPlace)
  | .pointer none => some (dt none, [])
  | .pointer (some ⟨b, 0, none⟩) => some (dt (some b), [])
  | _ => none
theorem ptrR_ptr (o : Option Nat) : ptrR (ptr o) = some (dt o, []) := by cases o <;> rfl
theorem dt_inj {a b : Option Nat} (h : dt a = dt b) : a = b := by
  cases a <;> cases b <;> simp [dt] at h ⊢
  omega
theorem ptrR_inv {v : Value} {o : Option Nat} {ps : List MemPlace} (h : ptrR v = some (dt o, ps)) : v = ptr o := by
  unfold ptrR at h
  split at h
  · simp only [Option.some.injEq, Prod.mk.injEq] at h
    have := dt_inj h.1
    subst this
    rfl
  · simp only [Option.some.injEq, Prod.mk.injEq] at h
    have := dt_inj h.1
    subst this
    rfl
  · cases h
theorem law3 : Keyed Try.prog 3 := int_keyed Try.underlying3
theorem zero56 (w : World) : (zeroValue 56).run Try.prog w = .ok (.pointer none) w := by kernel_rfl
/-- A map at block m that tells of each key the entry's block, or none. -/
def MI (w : World) (m n : Nat) (f : Int → Option Nat) : Prop := ∃ D : DataW Unit, w.ownsMap Try.prog 3 ptrR m n D ∧ ∀ k, D.atKey (.int .i64 k) .nil = dt (f k)
def upd (f : Int → Option Nat) (k : Int) (o : Option Nat) : Int → Option Nat := fun j => if j = k then o else f j
/-- Nothing has changed but the map. -/
structure MT (w : World) (m : Nat) (w' : World) : Prop where
  os : w'.os = w.os
  tape : w'.tape = w.tape
  output : w'.output = w.output
  size : w'.heap.size = w.heap.size
  block : ∀ k, k ≠ m → w'.heap[k]? = w.heap[k]?
  frozen : ∀ a, w'.frozen? a = w.frozen? a
theorem MT.of {w w' : World} {m : Nat} (h : w.mapTurned w' m) : MT w m w' := by
  have hf := fun a => h.frozen a
  obtain ⟨es, clock, es', clock', hb, rfl⟩ := h
  exact ⟨rfl, rfl, rfl, by simp [ChangeMaps.setBlock], fun k hk => ChangeMaps.heap_setBlock_other hb _ hk, hf⟩
theorem MI.keep {w w' : World} {m n : Nat} {f : Int → Option Nat} (h : MI w m n f) (hk : w'.heap[m]? = w.heap[m]?) : MI w' m n f := by
  obtain ⟨D, ⟨es, clock, hb, rest⟩, hD⟩ := h
  exact ⟨D, ⟨es, clock, hk.trans hb, rest⟩, hD⟩
theorem MI.lt {w : World} {m n : Nat} {f : Int → Option Nat} (h : MI w m n f) : m < w.heap.size := by
  obtain ⟨D, h, _⟩ := h
  exact h.lt
theorem MI.ne {w : World} {m n : Nat} {f : Int → Option Nat} (h : MI w m n f) {b : Nat} {cs : Array Value} {t : TypeId} {z : Nat × Nat} (hb : w.heap[b]? = some (.cells cs t z)) : b ≠ m := by
  obtain ⟨D, ⟨es, clock, hm, _⟩, _⟩ := h
  intro e
  subst e
  rw [hm] at hb
  cases hb
theorem MI.look {w : World} {m n : Nat} {f : Int → Option Nat} (h : MI w m n f) (k : Int) (hk : (Lit.int .i64 k).wf = true) : (Instr.lookup 55 (.map (some m)) (.int .i64 k) false).run Try.prog w = .ok (ptr (f k)) w := by
  obtain ⟨D, h, hD⟩ := h
  obtain ⟨v, ps, hrun, hv⟩ := h.lookup law3 Try.underlying55 (zero56 w) (zd := .nil) (zp := []) rfl (keyOf_int_mk Try.underlying3 hk)
  rw [hD] at hv
  rw [hrun, ptrR_inv hv]
theorem lit_ne {j k : Int} (h : j ≠ k) : (Lit.int .i64 j) ≠ (Lit.int .i64 k) := fun e => h (by cases e; rfl)
theorem MI.del {w : World} {m n : Nat} {f : Int → Option Nat} (h : MI w m n f) (k : Int) (hk : (Lit.int .i64 k).wf = true) (ty : TypeId) :
    ∃ w', (Builtin.delete_ #[55, 3] ty #[.map (some m), .int .i64 k]).run Try.prog w = .ok (.tuple #[]) w' ∧ MI w' m n (upd f k none) ∧ MT w m w' := by
  obtain ⟨D, h, hD⟩ := h
  obtain ⟨w', hrun, h', ht⟩ := h.drop law3 Try.underlying55 (keyOf_int_mk Try.underlying3 hk) ty
  refine ⟨w', hrun, ⟨_, h', fun j => ?_⟩, MT.of ht⟩
  unfold upd
  by_cases hj : j = k
  · subst hj
    rw [if_pos rfl, atKey_del_same]
    rfl
  · rw [if_neg hj, atKey_del_other (lit_ne hj), hD]
theorem MI.put {w : World} {m n : Nat} {f : Int → Option Nat} (h : MI w m n f) (k : Int) (hk : (Lit.int .i64 k).wf = true) (b : Nat) (hn : n < maxLen) :
    ∃ w', (Instr.mapUpdate 55 (.map (some m)) (.int .i64 k) (.pointer (some ⟨b, 0, none⟩))).run Try.prog w = .ok () w' ∧ MI w' m (n + 1) (upd f k (some b)) ∧ MT w m w' := by
  obtain ⟨D, h, hD⟩ := h
  obtain ⟨w', hrun, h', ht⟩ := h.store law3 Try.underlying55 hn (keyOf_int_mk Try.underlying3 hk) (ptrR_ptr (some b))
  refine ⟨w', hrun, ⟨_, h', fun j => ?_⟩, MT.of ht⟩
  unfold upd
  by_cases hj : j = k
  · subst hj
    rw [if_pos rfl, atKey_put_same h.isMap (law3.key (keyOf_int_mk Try.underlying3 hk))]
  · rw [if_neg hj, atKey_put_other (lit_ne hj), hD]
theorem MI.made (w : World) : MI (w.alloc (.map #[] 0)) w.heap.size 0 (fun _ => none) := ⟨_, World.ownsMap_made _ _ _ _, fun _ => rfl⟩
set_option maxHeartbeats 400000 in
theorem find_any (c m n : Nat) (f : Int → Option Nat) (mo by' : Int) (p q : Option Nat) (k : Int) (w : World) (hc : w.heap[c]? = some (crow mo by' m p q)) (hm : MI w m n f) (hk : (Lit.int .i64 k).wf = true) :
    Calls Try.prog 33 #[.pointer (some ⟨c, 0, none⟩), .int .i64 k] w fun e w' => e = .returned (ptr (f k)) ∧ w' = w := by
  obtain ⟨⟨c0, c1, c2, c3, c4⟩, cf⟩ := row5 hc
  have hlk := hm.look k hk
  generalize ptr (f k) = r at *
  clear hm hc cf
  go_enter Try.func33, Try.ntmps33
  go_wp2
  go_ret
  exact ⟨rfl, rfl⟩
set_option maxHeartbeats 400000 in
theorem find_nil (k : Int) (w : World) : Calls Try.prog 33 #[.pointer none, .int .i64 k] w fun e w' => e = .returned (.pointer none) ∧ w' = w := by
  go_enter Try.func33, Try.ntmps33
  go_wp2
  go_ret
  exact ⟨rfl, rfl⟩
set_option maxHeartbeats 400000 in
theorem hasRoom_any (c m : Nat) (mo by' : Int) (p q : Option Nat) (k : Int) (w : World) (hc : w.heap[c]? = some (crow mo by' m p q)) (h0 : 0 ≤ mo) (h1 : mo ≤ 65536) (h2 : 0 ≤ by') (h3 : by' ≤ 65536) :
    Calls Try.prog 29 #[.pointer (some ⟨c, 0, none⟩), .int .i64 k] w fun e w' => e = .returned (.bool (decide (k ≤ mo - by'))) ∧ ∃ n, w' = w.drewN n := by
  obtain ⟨⟨c0, c1, c2, c3, c4⟩, cf⟩ := row5 hc
  have hw : IntKind.i64.wrap (mo - by') = mo - by' := by rw [IntKind.wrap_i64]; omega
  clear hc cf
  go_enter Try.func29, Try.ntmps29
  go_wp2_with fail
  go_quiet (fail)
  go_wp2
  go_ret
  exact ⟨rfl, _, rfl⟩
end Go.Proofs.Ytpfmdchmgaaakaa
