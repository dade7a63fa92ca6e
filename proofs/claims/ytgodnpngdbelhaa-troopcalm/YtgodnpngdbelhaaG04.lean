/-
  The map of the votes by their slots.
-/
import Derived.Test.YtgodnpngdbelhaaG02
import Derived.Test.YtgodnpngdbelhaaG01
import Derived.Maps.OwnSet
import Derived.Test.YtgodnpngdbelhaaG03
namespace Go.Proofs.Ytgodnpngdbelhaa.Np
open Go.RowKit Go.Maps
set_option linter.unusedVariables false
open Go.Proofs.Ytgodnpngdbelhaa.M (E V)
open Go.Proofs.Ytgodnpngdbelhaa.Np.M (fup)

/-- A vote, and a ballot, as values. -/
abbrev bV (x : E) : Value := .agg #[.int .i64 x.i, .int .i64 x.t]
abbrev vV (x : V) : Value := .agg #[.int .i64 x.s, .int .i64 x.b.i, .int .i64 x.b.t, .string x.v]
/-- How a vote reads. -/
def oenc (x : V) : DataW Unit := .agg [.lit (.int .i64 x.s), .lit (.int .i64 x.b.i), .lit (.int .i64 x.b.t), .lit (.string x.v.data.toList)]
def outR : Value → Option (DataW Unit × List MemPlace)
  | .agg ⟨[.int .i64 a, .int .i64 b, .int .i64 c, .string s]⟩ => some (oenc ⟨a, ⟨b, c⟩, s⟩, [])
  | _ => none
theorem outR_mk (p : V) : outR (vV p) = some (oenc p, []) := rfl
theorem oenc_inj {p q : V} (h : oenc p = oenc q) : p = q := by
  obtain ⟨a, ⟨b, c⟩, s⟩ := p
  obtain ⟨a', ⟨b', c'⟩, t⟩ := q
  simp only [oenc, DataW.agg.injEq, List.cons.injEq, DataW.lit.injEq, Lit.int.injEq, Lit.string.injEq, and_true, true_and] at h
  obtain ⟨rfl, rfl, rfl, h2⟩ := h
  have : s = t := by
    apply ByteArray.ext
    exact Array.ext' h2
  rw [this]
theorem outR_inv {v : Value} {p : V} {ps : List MemPlace} (h : outR v = some (oenc p, ps)) : v = vV p := by
  unfold outR at h
  split at h
  · simp only [Option.some.injEq, Prod.mk.injEq] at h
    have := oenc_inj h.1
    subst this
    rfl
  · cases h
theorem law3 : Keyed Try.prog 3 := int_keyed Try.underlying3
def zo : V := ⟨0, ⟨0, 0⟩, ⟨#[]⟩⟩
theorem zero84 (w : World) : (zeroValue 84).run Try.prog w = .ok (vV zo) w := by kernel_rfl
/-- A map at block m that tells of each number its vote. -/
def MI (w : World) (m n : Nat) (f : Int → Option V) : Prop := ∃ D : DataW Unit, w.ownsMap Try.prog 3 outR m n D ∧ ∀ k, D.atKey (.int .i64 k) (oenc zo) = oenc ((f k).getD zo) ∧ Maps.has D (.int .i64 k) = (f k).isSome
/-- Nothing has changed but the map. -/
structure MT (w : World) (m : Nat) (w' : World) : Prop where
  os : w'.os = w.os
  tape : w'.tape = w.tape
  output : w'.output = w.output
  size : w'.heap.size = w.heap.size
  block : ∀ k, k ≠ m → w'.heap[k]? = w.heap[k]?
  frozen : ∀ a, w'.frozen? a = w.frozen? a
theorem MT.of {w w' : World} {m : Nat} (h : w.mapTurned w' m) : MT w m w' := by
  have hf := fun a => h.frozen a
  obtain ⟨es, clock, es', clock', hb, rfl⟩ := h
  exact ⟨rfl, rfl, rfl, by simp [ChangeMaps.setBlock], fun k hk => ChangeMaps.heap_setBlock_other hb _ hk, hf⟩
section
variable {w w' : World} {m n : Nat} {f : Int → Option V}
theorem MI.keep (h : MI w m n f) (hk : w'.heap[m]? = w.heap[m]?) : MI w' m n f := by
  obtain ⟨D, ⟨es, clock, hb, rest⟩, hD⟩ := h
  exact ⟨D, ⟨es, clock, hk.trans hb, rest⟩, hD⟩
theorem MI.lt (h : MI w m n f) : m < w.heap.size := by
  obtain ⟨D, h, _⟩ := h
  exact h.lt
theorem MI.ne (h : MI w m n f) {b : Nat} {cs : Array Value} {t : TypeId} {z : Nat × Nat} (hb : w.heap[b]? = some (.cells cs t z)) : b ≠ m := by
  obtain ⟨D, ⟨es, clock, hm, _⟩, _⟩ := h
  intro e
  subst e
  rw [hm] at hb
  cases hb
theorem MI.look (h : MI w m n f) (k : Int) (hk : (Lit.int .i64 k).wf = true) : (Instr.lookup 95 (.map (some m)) (.int .i64 k) false).run Try.prog w = .ok (vV ((f k).getD zo)) w := by
  obtain ⟨D, h, hD⟩ := h
  obtain ⟨v, ps, hrun, hv⟩ := h.lookup law3 Try.underlying95 (zero84 w) (zd := oenc zo) (zp := []) rfl (keyOf_int_mk Try.underlying3 hk)
  rw [(hD k).1] at hv
  rw [hrun, outR_inv hv]
theorem MI.lookOk (h : MI w m n f) (k : Int) (hk : (Lit.int .i64 k).wf = true) : (Instr.lookup 95 (.map (some m)) (.int .i64 k) true).run Try.prog w = .ok (.tuple #[vV ((f k).getD zo), .bool (f k).isSome]) w := by
  obtain ⟨D, h, hD⟩ := h
  obtain ⟨v, ps, hrun, hv⟩ := h.look_ok law3 Try.underlying95 (zero84 w) (zd := oenc zo) (zp := []) rfl (keyOf_int_mk Try.underlying3 hk)
  rw [(hD k).1] at hv
  rw [hrun, outR_inv hv, (hD k).2]
theorem lit_ne {j k : Int} (h : j ≠ k) : (Lit.int .i64 j) ≠ (Lit.int .i64 k) := fun e => h (by cases e; rfl)
theorem MI.put (h : MI w m n f) (k : Int) (hk : (Lit.int .i64 k).wf = true) (p : V) (hn : n < maxLen) :
    ∃ w', (Instr.mapUpdate 95 (.map (some m)) (.int .i64 k) (vV p)).run Try.prog w = .ok () w' ∧ MI w' m (n + 1) (fup f k (some p)) ∧ MT w m w' := by
  obtain ⟨D, h, hD⟩ := h
  obtain ⟨w', hrun, h', ht⟩ := h.store law3 Try.underlying95 hn (keyOf_int_mk Try.underlying3 hk) (outR_mk p)
  refine ⟨w', hrun, ⟨_, h', fun j => ?_⟩, MT.of ht⟩
  unfold fup
  by_cases hj : j = k
  · subst hj
    rw [if_pos rfl, atKey_put_same h.isMap (law3.key (keyOf_int_mk Try.underlying3 hk)), Maps.has_put_same h.isMap (law3.key (keyOf_int_mk Try.underlying3 hk))]
    exact ⟨rfl, rfl⟩
  · rw [if_neg hj, atKey_put_other (lit_ne hj), Maps.has_put_other (lit_ne hj)]
    exact hD j
theorem MI.made (w : World) : MI (w.alloc (.map #[] 0)) w.heap.size 0 (fun _ => none) := ⟨_, World.ownsMap_made _ _ _ _, fun _ => ⟨rfl, rfl⟩⟩
end
end Go.Proofs.Ytgodnpngdbelhaa.Np
namespace Go.Proofs.Ytgodnpngdbelhaa.Np
open Go.RowKit
set_option linter.unusedVariables false
open Go.Proofs.Ytgodnpngdbelhaa.M (E V)

/-- Two cells of a block set. -/
def put2 (w : World) (g : Nat) (a b : Value) : World := (w.setCell ⟨g, 0, none⟩ a).setCell ⟨g, 1, none⟩ b
theorem put2_row {w : World} {g : Nat} {t : TypeId} {v0 v1 : Value} (h : w.heap[g]? = some (.cells #[v0, v1] t (0, 0))) (a b : Value) : (put2 w g a b).heap[g]? = some (.cells #[a, b] t (0, 0)) :=
  heap_setCell_same _ g 1 _ _ _ (heap_setCell_same w g 0 _ _ _ h)
theorem put2_bel {w0 w : World} {B g : Nat} (h : Below B w0 w) (hg : B ≤ g) (a b : Value) : Below B w0 (put2 w g a b) := (h.setCell hg _).setCell hg _
theorem put2_oth {w : World} {g k : Nat} (h : k ≠ g) (a b : Value) : (put2 w g a b).heap[k]? = w.heap[k]? := by
  unfold put2
  rw [heap_setCell_other _ ⟨g, 1, none⟩ k _ h, heap_setCell_other _ ⟨g, 0, none⟩ k _ h]

set_option maxRecDepth 100000 in
set_option maxHeartbeats 1000000 in
theorem greatest_any (a : Option Addr) (cap : Nat) (l : List E) (w : World) (hat : AtL bl w a l) (hl : l.length ≤ 1000000) :
    Calls Try.prog 78 #[.slice a l.length cap] w fun e w' => e = .returned (.int .i64 (M.bi l l.length)) ∧ Below w.heap.size w w' := by
  go_enter Try.func78, Try.ntmps78
  go_wp2
  go_loopw [3, 8] (fun be i wr => ∃ k : Nat, k ≤ l.length ∧ i = .int .i64 k ∧ be = .int .i64 (M.bi l k) ∧ Below w.heap.size w wr) (fun _ i _ => l.length - (intOf i).toNat)
  case atStart => exact ⟨0, by omega, rfl, rfl, Below.refl _ _⟩
  case round =>
    obtain ⟨k, hk, rfl, rfl, hb⟩ := hrel
    have HB := Hid_of hb
    by_cases hlt : k < l.length
    · have hat' := hat.keep hb
      obtain ⟨b, off, rfl, c0, c1⟩ := hat'.getB k hlt
      have hki : (k : Int) < (l.length : Int) := by omega
      obtain ⟨x, HX⟩ : ∃ x, Hid (l[k] = x) := ⟨_, Hid_of rfl⟩
      rw [HX.out] at c0 c1
      obtain ⟨W2, HW2⟩ : ∃ W2, Hid (wr.alloc (.cells #[.int .i64 x.i, .int .i64 x.t] 60) = W2) := ⟨_, Hid_of rfl⟩
      have HB2 : Hid (Below w.heap.size w W2) := by rw [← HW2.out]; exact bel_up HB.out (bel1 wr _) (Nat.le_refl _)
      have HX2 : Hid (∀ w', Below W2.heap.size W2 w' → w'.cell? ⟨wr.heap.size, 0, none⟩ = some (.int .i64 x.i) ∧ w'.cell? ⟨wr.heap.size, 1, none⟩ = some (.int .i64 x.t)) := fun w' hw' => by
        have h2 : W2.heap[wr.heap.size]? = some (.cells #[.int .i64 x.i, .int .i64 x.t] 60 (0, 0)) := by rw [← HW2.out]; exact heap_alloc_last wr _
        exact (row2 (bel_row h2 hw')).1
      have HL2 : Hid (∀ w', Below W2.heap.size W2 w' → AtL bl w' (some ⟨b, off, none⟩) l) := fun w' hw' => hat.keep (bel_up HB2.out hw' (Nat.le_refl _))
      clear hat hat' hb
      rcases Nat.eq_zero_or_pos k with h0 | h0
      · subst h0
        have HE : Hid (M.bi l 1 = 0) := rfl
        rw [M.bi_zero]
        have c0' : wr.cell? ⟨b, off, none⟩ = some (.int .i64 x.i) := by simpa using c0
        have c1' : wr.cell? ⟨b, off + 1, none⟩ = some (.int .i64 x.t) := by simpa using c1
        have HS := HX2
        clear HX2 HL2 c0 c1 HX
        go_upto_region 5 with fail
        rw [HW2.out]
        clear HW2
        refine wp_region_held_drew (S := fun wq => Below (W2).heap.size (W2) wq) (by kernel_rfl) (Below.drew (Below.refl _ _)) (fun hHeld => ?_)
        refine wpAnyH_take (i := 0) (oi := ?p0z) (v := ?v0z) ?o0z (by kernel_rfl) (by kernel_rfl) (by kernel_rfl) ?q0z ?y0z hHeld ?r0z
        case o0z => simp only [List.getElem?_toArray, List.getElem?_cons_zero]; rfl
        case q0z => exact fun _ _ _ h => h
        case y0z => (refine Or.inl ⟨rfl, ?_⟩; intro wq hq; obtain ⟨a0, a1⟩ := HS.out wq hq; go_simp; try with_reducible rfl)
        simp only [Act.put, List.setIfInBounds_toArray, List.set_cons_zero, List.set_cons_succ]
        refine wpAnyH_take (i := 1) (oi := ?p1z) (v := ?v1z) ?o1z (by kernel_rfl) (by kernel_rfl) (by kernel_rfl) ?q1z ?y1z hHeld ?r1z
        case o1z => simp only [List.getElem?_toArray, List.getElem?_cons_succ, List.getElem?_cons_zero]; rfl
        case q1z => exact fun _ _ _ h => h
        case y1z => (refine Or.inl ⟨rfl, ?_⟩; intro wq hq; obtain ⟨a0, a1⟩ := HS.out wq hq; go_simp; try with_reducible rfl)
        simp only [Act.put, List.setIfInBounds_toArray, List.set_cons_zero, List.set_cons_succ]
        refine wpAnyH_take (i := 2) (oi := ?p2z) (v := ?v2z) ?o2z (by kernel_rfl) (by kernel_rfl) (by kernel_rfl) ?q2z ?y2z hHeld ?r2z
        case o2z => simp only [List.getElem?_toArray, List.getElem?_cons_succ, List.getElem?_cons_zero]; rfl
        case q2z => exact fun _ _ _ h => h
        case y2z => (refine Or.inl ⟨rfl, ?_⟩; intro wq hq; obtain ⟨a0, a1⟩ := HS.out wq hq; go_simp; try with_reducible rfl)
        simp only [Act.put, List.setIfInBounds_toArray, List.set_cons_zero, List.set_cons_succ]
        refine wpAnyH_take (i := 3) (oi := ?p3z) (v := undef) ?o3z (by kernel_rfl) (by kernel_rfl) (by kernel_rfl) ?q3z ?y3z hHeld ?r3z
        case o3z => simp only [List.getElem?_toArray, List.getElem?_cons_succ, List.getElem?_cons_zero]; rfl
        case q3z => exact fun _ _ _ h => h
        case y3z => exact Or.inr ⟨rfl, rfl⟩
        simp only [Act.put, List.setIfInBounds_toArray, List.set_cons_zero, List.set_cons_succ]
        refine wpAnyH_take (i := 4) (oi := ?p4z) (v := undef) ?o4z (by kernel_rfl) (by kernel_rfl) (by kernel_rfl) ?q4z ?y4z hHeld ?r4z
        case o4z => simp only [List.getElem?_toArray, List.getElem?_cons_succ, List.getElem?_cons_zero]; rfl
        case q4z => exact fun _ _ _ h => h
        case y4z => exact Or.inr ⟨rfl, rfl⟩
        simp only [Act.put, List.setIfInBounds_toArray, List.set_cons_zero, List.set_cons_succ]
        refine wpAnyH_take (i := 5) (oi := ?p5z) (v := undef) ?o5z (by kernel_rfl) (by kernel_rfl) (by kernel_rfl) ?q5z ?y5z hHeld ?r5z
        case o5z => simp only [List.getElem?_toArray, List.getElem?_cons_succ, List.getElem?_cons_zero]; rfl
        case q5z => exact fun _ _ _ h => h
        case y5z => exact Or.inr ⟨rfl, rfl⟩
        simp only [Act.put, List.setIfInBounds_toArray, List.set_cons_zero, List.set_cons_succ]
        refine wpAnyH_take (i := 6) (oi := ?p6z) (v := undef) ?o6z (by kernel_rfl) (by kernel_rfl) (by kernel_rfl) ?q6z ?y6z hHeld ?r6z
        case o6z => simp only [List.getElem?_toArray, List.getElem?_cons_succ, List.getElem?_cons_zero]; rfl
        case q6z => exact fun _ _ _ h => h
        case y6z => exact Or.inr ⟨rfl, rfl⟩
        simp only [Act.put, List.setIfInBounds_toArray, List.set_cons_zero, List.set_cons_succ]
        refine wpAnyH_take (i := 7) (oi := ?p7z) (v := undef) ?o7z (by kernel_rfl) (by kernel_rfl) (by kernel_rfl) ?q7z ?y7z hHeld ?r7z
        case o7z => simp only [List.getElem?_toArray, List.getElem?_cons_succ, List.getElem?_cons_zero]; rfl
        case q7z => exact fun _ _ _ h => h
        case y7z => exact Or.inr ⟨rfl, rfl⟩
        simp only [Act.put, List.setIfInBounds_toArray, List.set_cons_zero, List.set_cons_succ]
        refine wpAnyH_take (i := 8) (oi := ?p8z) (v := undef) ?o8z (by kernel_rfl) (by kernel_rfl) (by kernel_rfl) ?q8z ?y8z hHeld ?r8z
        case o8z => simp only [List.getElem?_toArray, List.getElem?_cons_succ, List.getElem?_cons_zero]; rfl
        case q8z => exact fun _ _ _ h => h
        case y8z => exact Or.inr ⟨rfl, rfl⟩
        simp only [Act.put, List.setIfInBounds_toArray, List.set_cons_zero, List.set_cons_succ]
        refine wpAnyH_take (i := 9) (oi := ?p9z) (v := undef) ?o9z (by kernel_rfl) (by kernel_rfl) (by kernel_rfl) ?q9z ?y9z hHeld ?r9z
        case o9z => simp only [List.getElem?_toArray, List.getElem?_cons_succ, List.getElem?_cons_zero]; rfl
        case q9z => exact fun _ _ _ h => h
        case y9z => exact Or.inr ⟨rfl, rfl⟩
        simp only [Act.put, List.setIfInBounds_toArray, List.set_cons_zero, List.set_cons_succ]
        refine wpAnyH_take (i := 10) (oi := ?p10z) (v := ?v10z) ?o10z (by kernel_rfl) (by kernel_rfl) (by kernel_rfl) ?q10z ?y10z hHeld ?r10z
        case o10z => simp only [List.getElem?_toArray, List.getElem?_cons_succ, List.getElem?_cons_zero]; rfl
        case q10z => exact fun _ _ _ h => h
        case y10z => (refine Or.inl ⟨rfl, ?_⟩; intro wq hq; obtain ⟨a0, a1⟩ := HS.out wq hq; go_simp; try with_reducible rfl)
        simp only [Act.put, List.setIfInBounds_toArray, List.set_cons_zero, List.set_cons_succ]
        refine wpAnyH_done (by kernel_rfl) ?_ _
        go_wp2
        go_roundw
        case rel => exact ⟨1, by omega, by go_num, by rw [HE.out]; rfl, bel_up HB2.out hHeld (Nat.le_refl _)⟩
        case measure => simp [intOf]; omega
      · obtain ⟨p, y, r, hpn, HBI, HR, HS, HN1, HN2⟩ : ∃ (p : Nat) (y : E) (r : Int), p < l.length ∧ Hid (M.bi l k = (p : Int)) ∧ Hid (M.cmpE x y = r) ∧ Hid (∀ w', Below W2.heap.size W2 w' → (w'.cell? ⟨wr.heap.size, 0, none⟩ = some (.int .i64 x.i) ∧ w'.cell? ⟨wr.heap.size, 1, none⟩ = some (.int .i64 x.t)) ∧ (w'.cell? ⟨b, off + p * 2, none⟩ = some (.int .i64 y.i) ∧ w'.cell? ⟨b, off + p * 2 + 1, none⟩ = some (.int .i64 y.t))) ∧ Hid (0 < r → M.bi l (k + 1) = (k : Int)) ∧ Hid (¬ 0 < r → M.bi l (k + 1) = (p : Int)) := by
          have hp := M.bst_lt l k h0
          have hst := M.bst_step l k h0 hlt
          have hb1 := M.bi_pos l (show 0 < k + 1 by omega)
          rw [HX.out] at hst
          refine ⟨M.bst l k, l[M.bst l k]'(by omega), _, by omega, M.bi_pos l h0, Hid_of rfl, Hid_of fun w' hw' => ⟨HX2.out w' hw', ?_⟩, Hid_of fun hr => ?_, Hid_of fun hr => ?_⟩
          · obtain ⟨b', off', e, y0, y1⟩ := (HL2.out w' hw').getB (M.bst l k) (by omega)
            cases e
            exact ⟨y0, y1⟩
          · rw [hb1, hst, if_pos hr]
          · rw [hb1, hst, if_neg hr]
        have hpi : (p : Int) < (l.length : Int) := by omega
        have hp0 : decide ((p : Int) < 0) = false := decide_eq_false (by omega)
        rw [HBI.out]
        clear HX2 HL2 HBI HX
        by_cases hr : 0 < r
        · have HE := Hid_of (HN1.out hr)
          have dr : decide (0 < r) = true := decide_eq_true hr
          clear HN1 HN2 hr
          go_upto_region 5 with fail
          rw [HW2.out]
          clear HW2
          refine wp_region_held_drew (S := fun wq => Below (W2).heap.size (W2) wq) (by kernel_rfl) (Below.drew (Below.refl _ _)) (fun hHeld => ?_)
          refine wpAnyH_take (i := 0) (oi := ?p0a) (v := ?v0a) ?o0a (by kernel_rfl) (by kernel_rfl) (by kernel_rfl) ?q0a ?y0a hHeld ?r0a
          case o0a => simp only [List.getElem?_toArray, List.getElem?_cons_zero]; rfl
          case q0a => exact fun _ _ _ h => h
          case y0a => (refine Or.inl ⟨rfl, ?_⟩; intro wq hq; obtain ⟨⟨a0, a1⟩, ⟨b0, b1⟩⟩ := HS.out wq hq; go_simp; try with_reducible rfl)
          simp only [Act.put, List.setIfInBounds_toArray, List.set_cons_zero, List.set_cons_succ]
          refine wpAnyH_take (i := 1) (oi := ?p1a) (v := ?v1a) ?o1a (by kernel_rfl) (by kernel_rfl) (by kernel_rfl) ?q1a ?y1a hHeld ?r1a
          case o1a => simp only [List.getElem?_toArray, List.getElem?_cons_succ, List.getElem?_cons_zero]; rfl
          case q1a => exact fun _ _ _ h => h
          case y1a => (refine Or.inl ⟨rfl, ?_⟩; intro wq hq; obtain ⟨⟨a0, a1⟩, ⟨b0, b1⟩⟩ := HS.out wq hq; go_simp; try with_reducible rfl)
          simp only [Act.put, List.setIfInBounds_toArray, List.set_cons_zero, List.set_cons_succ]
          refine wpAnyH_take (i := 2) (oi := ?p2a) (v := ?v2a) ?o2a (by kernel_rfl) (by kernel_rfl) (by kernel_rfl) ?q2a ?y2a hHeld ?r2a
          case o2a => simp only [List.getElem?_toArray, List.getElem?_cons_succ, List.getElem?_cons_zero]; rfl
          case q2a => exact fun _ _ _ h => h
          case y2a => (refine Or.inl ⟨rfl, ?_⟩; intro wq hq; obtain ⟨⟨a0, a1⟩, ⟨b0, b1⟩⟩ := HS.out wq hq; go_simp; try with_reducible rfl)
          simp only [Act.put, List.setIfInBounds_toArray, List.set_cons_zero, List.set_cons_succ]
          refine wpAnyH_take (i := 3) (oi := ?p3a) (v := ?v3a) ?o3a (by kernel_rfl) (by kernel_rfl) (by kernel_rfl) ?q3a ?y3a hHeld ?r3a
          case o3a => simp only [List.getElem?_toArray, List.getElem?_cons_succ, List.getElem?_cons_zero]; rfl
          case q3a => exact fun _ _ _ h => h
          case y3a => (refine Or.inl ⟨rfl, ?_⟩; intro wq hq; obtain ⟨⟨a0, a1⟩, ⟨b0, b1⟩⟩ := HS.out wq hq; go_simp; try with_reducible rfl)
          simp only [Act.put, List.setIfInBounds_toArray, List.set_cons_zero, List.set_cons_succ]
          refine wpAnyH_take (i := 4) (oi := ?p4a) (v := ?v4a) ?o4a (by kernel_rfl) (by kernel_rfl) (by kernel_rfl) ?q4a ?y4a hHeld ?r4a
          case o4a => simp only [List.getElem?_toArray, List.getElem?_cons_succ, List.getElem?_cons_zero]; rfl
          case q4a => exact fun _ _ _ h => h
          case y4a => (refine Or.inl ⟨rfl, ?_⟩; intro wq hq; obtain ⟨⟨a0, a1⟩, ⟨b0, b1⟩⟩ := HS.out wq hq; go_simp; try with_reducible rfl)
          simp only [Act.put, List.setIfInBounds_toArray, List.set_cons_zero, List.set_cons_succ]
          refine wpAnyH_take (i := 5) (oi := ?p5a) (v := ?v5a) ?o5a (by kernel_rfl) (by kernel_rfl) (by kernel_rfl) ?q5a ?y5a hHeld ?r5a
          case o5a => simp only [List.getElem?_toArray, List.getElem?_cons_succ, List.getElem?_cons_zero]; rfl
          case q5a => exact fun _ _ _ h => h
          case y5a => (refine Or.inl ⟨rfl, ?_⟩; intro wq hq; obtain ⟨⟨a0, a1⟩, ⟨b0, b1⟩⟩ := HS.out wq hq; go_simp; try with_reducible rfl)
          simp only [Act.put, List.setIfInBounds_toArray, List.set_cons_zero, List.set_cons_succ]
          refine wpAnyH_take (i := 6) (oi := ?p6a) (v := ?v6a) ?o6a (by kernel_rfl) (by kernel_rfl) (by kernel_rfl) ?q6a ?y6a hHeld ?r6a
          case o6a => simp only [List.getElem?_toArray, List.getElem?_cons_succ, List.getElem?_cons_zero]; rfl
          case q6a => exact fun _ _ _ h => h
          case y6a => (refine Or.inl ⟨rfl, ?_⟩; intro wq hq; obtain ⟨⟨a0, a1⟩, ⟨b0, b1⟩⟩ := HS.out wq hq; go_simp; try with_reducible rfl)
          simp only [Act.put, List.setIfInBounds_toArray, List.set_cons_zero, List.set_cons_succ]
          refine wpAnyH_take (i := 7) (oi := ?p7a) (v := ?v7a) ?o7a (by kernel_rfl) (by kernel_rfl) (by kernel_rfl) ?q7a ?y7a hHeld ?r7a
          case o7a => simp only [List.getElem?_toArray, List.getElem?_cons_succ, List.getElem?_cons_zero]; rfl
          case q7a => exact fun _ _ _ h => h
          case y7a => (refine Or.inl ⟨rfl, ?_⟩; intro wq hq; obtain ⟨⟨a0, a1⟩, ⟨b0, b1⟩⟩ := HS.out wq hq; go_simp; try with_reducible rfl)
          simp only [Act.put, List.setIfInBounds_toArray, List.set_cons_zero, List.set_cons_succ]
          refine wpAnyH_ready (rs := [8]) (by kernel_rfl) (by simp) ?_
          refine AllReadyH.cons (o := ?p8a) ?o8a ?s8a AllReadyH.nil
          case o8a => simp only [List.getElem?_toArray, List.getElem?_cons_succ, List.getElem?_cons_zero]; rfl
          intro K hK
          go_simp
          have cc := cmp_any x y
          rw [HR.out] at cc
          refine (cc _).mono ?_
          clear cc
          rintro e w3 ⟨rfl, hb3⟩
          have B3 : Below W2.heap.size W2 w3 := hHeld.trans (hb3.mono hHeld.size)
          clear hb3
          refine hK.out _ _ B3 (fun hHeld => ?_)
          clear hK K
          refine wpAnyH_take (i := 9) (oi := ?p9a) (v := ?v9a) ?o9a (by kernel_rfl) (by kernel_rfl) (by kernel_rfl) ?q9a ?y9a hHeld ?r9a
          case o9a => simp only [List.getElem?_toArray, List.getElem?_cons_succ, List.getElem?_cons_zero]; rfl
          case q9a => exact fun _ _ _ h => h
          case y9a => (refine Or.inl ⟨rfl, ?_⟩; intro wq hq; obtain ⟨⟨a0, a1⟩, ⟨b0, b1⟩⟩ := HS.out wq hq; go_simp; try with_reducible rfl)
          simp only [Act.put, List.setIfInBounds_toArray, List.set_cons_zero, List.set_cons_succ]
          refine wpAnyH_take (i := 10) (oi := ?p10a) (v := ?v10a) ?o10a (by kernel_rfl) (by kernel_rfl) (by kernel_rfl) ?q10a ?y10a hHeld ?r10a
          case o10a => simp only [List.getElem?_toArray, List.getElem?_cons_succ, List.getElem?_cons_zero]; rfl
          case q10a => exact fun _ _ _ h => h
          case y10a => (refine Or.inl ⟨rfl, ?_⟩; intro wq hq; obtain ⟨⟨a0, a1⟩, ⟨b0, b1⟩⟩ := HS.out wq hq; go_simp; try with_reducible rfl)
          simp only [Act.put, List.setIfInBounds_toArray, List.set_cons_zero, List.set_cons_succ]
          refine wpAnyH_done (by kernel_rfl) ?_ _
          go_wp2
          go_roundw
          case rel => exact ⟨k + 1, by omega, by go_num, by rw [HE.out], bel_up HB2.out hHeld (Nat.le_refl _)⟩
          case measure => simp [intOf]; omega
        · have HE := Hid_of (HN2.out hr)
          have dr : decide (0 < r) = false := decide_eq_false hr
          clear HN1 HN2 hr
          go_upto_region 5 with fail
          rw [HW2.out]
          clear HW2
          refine wp_region_held_drew (S := fun wq => Below (W2).heap.size (W2) wq) (by kernel_rfl) (Below.drew (Below.refl _ _)) (fun hHeld => ?_)
          refine wpAnyH_take (i := 0) (oi := ?p0b) (v := ?v0b) ?o0b (by kernel_rfl) (by kernel_rfl) (by kernel_rfl) ?q0b ?y0b hHeld ?r0b
          case o0b => simp only [List.getElem?_toArray, List.getElem?_cons_zero]; rfl
          case q0b => exact fun _ _ _ h => h
          case y0b => (refine Or.inl ⟨rfl, ?_⟩; intro wq hq; obtain ⟨⟨a0, a1⟩, ⟨b0, b1⟩⟩ := HS.out wq hq; go_simp; try with_reducible rfl)
          simp only [Act.put, List.setIfInBounds_toArray, List.set_cons_zero, List.set_cons_succ]
          refine wpAnyH_take (i := 1) (oi := ?p1b) (v := ?v1b) ?o1b (by kernel_rfl) (by kernel_rfl) (by kernel_rfl) ?q1b ?y1b hHeld ?r1b
          case o1b => simp only [List.getElem?_toArray, List.getElem?_cons_succ, List.getElem?_cons_zero]; rfl
          case q1b => exact fun _ _ _ h => h
          case y1b => (refine Or.inl ⟨rfl, ?_⟩; intro wq hq; obtain ⟨⟨a0, a1⟩, ⟨b0, b1⟩⟩ := HS.out wq hq; go_simp; try with_reducible rfl)
          simp only [Act.put, List.setIfInBounds_toArray, List.set_cons_zero, List.set_cons_succ]
          refine wpAnyH_take (i := 2) (oi := ?p2b) (v := ?v2b) ?o2b (by kernel_rfl) (by kernel_rfl) (by kernel_rfl) ?q2b ?y2b hHeld ?r2b
          case o2b => simp only [List.getElem?_toArray, List.getElem?_cons_succ, List.getElem?_cons_zero]; rfl
          case q2b => exact fun _ _ _ h => h
          case y2b => (refine Or.inl ⟨rfl, ?_⟩; intro wq hq; obtain ⟨⟨a0, a1⟩, ⟨b0, b1⟩⟩ := HS.out wq hq; go_simp; try with_reducible rfl)
          simp only [Act.put, List.setIfInBounds_toArray, List.set_cons_zero, List.set_cons_succ]
          refine wpAnyH_take (i := 3) (oi := ?p3b) (v := ?v3b) ?o3b (by kernel_rfl) (by kernel_rfl) (by kernel_rfl) ?q3b ?y3b hHeld ?r3b
          case o3b => simp only [List.getElem?_toArray, List.getElem?_cons_succ, List.getElem?_cons_zero]; rfl
          case q3b => exact fun _ _ _ h => h
          case y3b => (refine Or.inl ⟨rfl, ?_⟩; intro wq hq; obtain ⟨⟨a0, a1⟩, ⟨b0, b1⟩⟩ := HS.out wq hq; go_simp; try with_reducible rfl)
          simp only [Act.put, List.setIfInBounds_toArray, List.set_cons_zero, List.set_cons_succ]
          refine wpAnyH_take (i := 4) (oi := ?p4b) (v := ?v4b) ?o4b (by kernel_rfl) (by kernel_rfl) (by kernel_rfl) ?q4b ?y4b hHeld ?r4b
          case o4b => simp only [List.getElem?_toArray, List.getElem?_cons_succ, List.getElem?_cons_zero]; rfl
          case q4b => exact fun _ _ _ h => h
          case y4b => (refine Or.inl ⟨rfl, ?_⟩; intro wq hq; obtain ⟨⟨a0, a1⟩, ⟨b0, b1⟩⟩ := HS.out wq hq; go_simp; try with_reducible rfl)
          simp only [Act.put, List.setIfInBounds_toArray, List.set_cons_zero, List.set_cons_succ]
          refine wpAnyH_take (i := 5) (oi := ?p5b) (v := ?v5b) ?o5b (by kernel_rfl) (by kernel_rfl) (by kernel_rfl) ?q5b ?y5b hHeld ?r5b
          case o5b => simp only [List.getElem?_toArray, List.getElem?_cons_succ, List.getElem?_cons_zero]; rfl
          case q5b => exact fun _ _ _ h => h
          case y5b => (refine Or.inl ⟨rfl, ?_⟩; intro wq hq; obtain ⟨⟨a0, a1⟩, ⟨b0, b1⟩⟩ := HS.out wq hq; go_simp; try with_reducible rfl)
          simp only [Act.put, List.setIfInBounds_toArray, List.set_cons_zero, List.set_cons_succ]
          refine wpAnyH_take (i := 6) (oi := ?p6b) (v := ?v6b) ?o6b (by kernel_rfl) (by kernel_rfl) (by kernel_rfl) ?q6b ?y6b hHeld ?r6b
          case o6b => simp only [List.getElem?_toArray, List.getElem?_cons_succ, List.getElem?_cons_zero]; rfl
          case q6b => exact fun _ _ _ h => h
          case y6b => (refine Or.inl ⟨rfl, ?_⟩; intro wq hq; obtain ⟨⟨a0, a1⟩, ⟨b0, b1⟩⟩ := HS.out wq hq; go_simp; try with_reducible rfl)
          simp only [Act.put, List.setIfInBounds_toArray, List.set_cons_zero, List.set_cons_succ]
          refine wpAnyH_take (i := 7) (oi := ?p7b) (v := ?v7b) ?o7b (by kernel_rfl) (by kernel_rfl) (by kernel_rfl) ?q7b ?y7b hHeld ?r7b
          case o7b => simp only [List.getElem?_toArray, List.getElem?_cons_succ, List.getElem?_cons_zero]; rfl
          case q7b => exact fun _ _ _ h => h
          case y7b => (refine Or.inl ⟨rfl, ?_⟩; intro wq hq; obtain ⟨⟨a0, a1⟩, ⟨b0, b1⟩⟩ := HS.out wq hq; go_simp; try with_reducible rfl)
          simp only [Act.put, List.setIfInBounds_toArray, List.set_cons_zero, List.set_cons_succ]
          refine wpAnyH_ready (rs := [8]) (by kernel_rfl) (by simp) ?_
          refine AllReadyH.cons (o := ?p8b) ?o8b ?s8b AllReadyH.nil
          case o8b => simp only [List.getElem?_toArray, List.getElem?_cons_succ, List.getElem?_cons_zero]; rfl
          intro K hK
          go_simp
          have cc := cmp_any x y
          rw [HR.out] at cc
          refine (cc _).mono ?_
          clear cc
          rintro e w3 ⟨rfl, hb3⟩
          have B3 : Below W2.heap.size W2 w3 := hHeld.trans (hb3.mono hHeld.size)
          clear hb3
          refine hK.out _ _ B3 (fun hHeld => ?_)
          clear hK K
          refine wpAnyH_take (i := 9) (oi := ?p9b) (v := ?v9b) ?o9b (by kernel_rfl) (by kernel_rfl) (by kernel_rfl) ?q9b ?y9b hHeld ?r9b
          case o9b => simp only [List.getElem?_toArray, List.getElem?_cons_succ, List.getElem?_cons_zero]; rfl
          case q9b => exact fun _ _ _ h => h
          case y9b => (refine Or.inl ⟨rfl, ?_⟩; intro wq hq; obtain ⟨⟨a0, a1⟩, ⟨b0, b1⟩⟩ := HS.out wq hq; go_simp; try with_reducible rfl)
          simp only [Act.put, List.setIfInBounds_toArray, List.set_cons_zero, List.set_cons_succ]
          refine wpAnyH_take (i := 10) (oi := ?p10b) (v := ?v10b) ?o10b (by kernel_rfl) (by kernel_rfl) (by kernel_rfl) ?q10b ?y10b hHeld ?r10b
          case o10b => simp only [List.getElem?_toArray, List.getElem?_cons_succ, List.getElem?_cons_zero]; rfl
          case q10b => exact fun _ _ _ h => h
          case y10b => (refine Or.inl ⟨rfl, ?_⟩; intro wq hq; obtain ⟨⟨a0, a1⟩, ⟨b0, b1⟩⟩ := HS.out wq hq; go_simp; try with_reducible rfl)
          simp only [Act.put, List.setIfInBounds_toArray, List.set_cons_zero, List.set_cons_succ]
          refine wpAnyH_done (by kernel_rfl) ?_ _
          go_wp2
          go_roundw
          case rel => exact ⟨k + 1, by omega, by go_num, by rw [HE.out], bel_up HB2.out hHeld (Nat.le_refl _)⟩
          case measure => simp [intOf]; omega
    · obtain rfl : k = l.length := by omega
      clear hat
      go_wp2
      go_ret
      exact ⟨rfl, HB.out⟩

theorem f63_res : Try.f63.results = #[.cell 2 60] := rfl
set_option maxHeartbeats 400000 in
theorem max_any (a : Option Addr) (cap : Nat) (l : List E) (w : World) (hat : AtL bl w a l) (hl : l.length ≤ 1000000) :
    Calls Try.prog 63 #[.slice a l.length cap] w fun e w' => e = .returned (.agg #[.int .i64 (M.bx l l.length).i, .int .i64 (M.bx l l.length).t]) ∧ Below w.heap.size w w' := by
  obtain ⟨z, HZ⟩ : ∃ z, Hid (M.bx l l.length = z) := ⟨_, Hid_of rfl⟩
  rw [HZ.out]
  have hr1 := heap_alloc_last w (.cells #[.int .i64 0, .int .i64 0] 60)
  obtain ⟨W1, HW1⟩ : ∃ W1, Hid (w.alloc (.cells #[.int .i64 0, .int .i64 0] 60) = W1) := ⟨_, Hid_of rfl⟩
  have HB1 : Hid (Below w.heap.size w W1) := by rw [← HW1.out]; exact bel1 w _
  rw [HW1.out] at hr1
  have HR1 := Hid_of hr1
  clear hr1
  go_enter Try.func63, Try.ntmps63
  go_upto_region 1 with fail
  rw [HW1.out]
  clear HW1
  go_wp2_with fail
  refine (greatest_any a cap l W1 (hat.keep HB1.out) hl).mono ?_
  rintro e w2 ⟨rfl, hb2⟩
  have HB2 := Hid_of (bel_up HB1.out hb2 (Nat.le_refl _))
  have hr2 := bel_row HR1.out hb2
  have HR2 := Hid_of hr2
  obtain ⟨⟨x0, x1⟩, xf⟩ := row2 hr2
  have f0 := xf 0
  have f1 := xf 1
  have hat2 := hat.keep HB2.out
  clear xf hr2 hat HB1 HR1 hb2
  rcases Nat.eq_zero_or_pos l.length with h0 | h0
  · have e1 : M.bi l l.length = -1 := by rw [h0]; rfl
    obtain rfl : z = ⟨0, 0⟩ := by rw [← HZ.out, h0]; rfl
    rw [e1]
    clear e1 hat2 h0 HZ
    go_wp2
    refine bodyPost_ret (v := .agg #[.int .i64 0, .int .i64 0]) ?_ rfl ⟨rfl, put2_bel HB2.out (Nat.le_refl _) _ _⟩
    exact results_cell_row f63_res _ _ w.heap.size 60 _ (0, 0) _ rfl (put2_row HR2.out _ _) Try.underlying60 rfl Try.size60
  · have hp := M.bst_lt l l.length h0
    have e1 := M.bi_pos l h0
    have e2 := M.bx_pos l h0 (Nat.le_refl _)
    rw [HZ.out] at e2
    rw [e1]
    obtain ⟨b, off, rfl, c0, c1⟩ := hat2.getB (M.bst l l.length) hp
    rw [← e2] at c0 c1
    clear e1 e2 hat2 h0 HZ
    generalize M.bst l l.length = p at *
    have hpi : (p : Int) < (l.length : Int) := by omega
    have hp0 : decide ((p : Int) < 0) = false := decide_eq_false (by omega)
    go_wp2
    refine bodyPost_ret (v := .agg #[.int .i64 z.i, .int .i64 z.t]) ?_ rfl ⟨rfl, put2_bel HB2.out (Nat.le_refl _) _ _⟩
    exact results_cell_row f63_res _ _ w.heap.size 60 _ (0, 0) _ rfl (put2_row HR2.out _ _) Try.underlying60 rfl Try.size60

end Go.Proofs.Ytgodnpngdbelhaa.Np
namespace Go.Proofs.Ytgodnpngdbelhaa.Np
open Go.RowKit
set_option linter.unusedVariables false
open Go.Proofs.Ytgodnpngdbelhaa.M (E V)

theorem hi60 : Try.prog.info? 60 = some Try.t60 := by kernel_rfl
/-- The row of ballots, so many of them laid. -/
def lst (l : List V) (k : Nat) : List E := (l.map V.b).take k ++ List.replicate (l.length - k) ⟨0, 0⟩
theorem lst_len (l : List V) (k : Nat) (h : k ≤ l.length) : (lst l k).length = l.length := by
  unfold lst
  rw [List.length_append, List.length_take, List.length_map, List.length_replicate, Nat.min_eq_left h]
  omega
theorem lst_all (l : List V) : lst l l.length = l.map V.b := by
  unfold lst
  rw [Nat.sub_self, List.replicate_zero, List.append_nil, List.take_of_length_le (by simp)]
theorem lst_set (l : List V) (k : Nat) (h : k < l.length) : (lst l k).set k l[k].b = lst l (k + 1) := by
  unfold lst
  obtain ⟨m, hm⟩ : ∃ m, l.length - k = m + 1 := ⟨l.length - k - 1, by omega⟩
  have hA : ((l.map V.b).take k).length = k := by rw [List.length_take, List.length_map]; omega
  rw [hm, show l.length - (k + 1) = m by omega, List.replicate_succ, List.set_append_right _ _ (by omega), hA, Nat.sub_self, List.set_cons_zero]
  rw [List.take_add_one, List.getElem?_map, List.getElem?_eq_getElem h, List.append_assoc]
  rfl
theorem lst_get (l : List V) (k : Nat) (h : k < l.length) : (lst l k)[k]'(by rw [lst_len l k (by omega)]; exact h) = ⟨0, 0⟩ := by
  unfold lst
  rw [List.getElem_append_right (by simp; omega)]
  simp
theorem rep_cells : ∀ n, bl.cells (List.replicate n ⟨0, 0⟩) = (List.range (n * 2)).map (fun i => (#[Value.int .i64 0, Value.int .i64 0])[i % 2]!)
  | 0 => rfl
  | n + 1 => by
    rw [List.replicate_succ', Ly.app, rep_cells n, show (n + 1) * 2 = n * 2 + 1 + 1 by omega, List.range_succ, List.range_succ, List.map_append, List.map_append, List.append_assoc]
    have e1 : n * 2 % 2 = 0 := by omega
    have e2 : (n * 2 + 1) % 2 = 1 := by omega
    simp only [List.map_cons, List.map_nil, e1, e2]
    rfl
theorem made (n : Nat) : madeCells (Value.agg #[.int .i64 0, .int .i64 0]).cells (n * 2) = (bl.cells (List.replicate n ⟨0, 0⟩)).toArray := by
  rw [rep_cells]
  apply Array.ext'
  unfold madeCells
  rw [Array.toList_map, Array.toList_range]
  rfl
/-- What ballots of votes leave. -/
def BOut (w : World) (l : List V) (e : Ending) (w' : World) : Prop := ∃ a, e = .returned (.slice a l.length l.length) ∧ AtL bl w' a (l.map V.b) ∧ Below w.heap.size w w'
theorem at_row {w : World} {g : Nat} {l : List E} (h : w.heap[g]? = some (.cells (bl.cells l).toArray 60 (0, 0))) : AtL bl w (some ⟨g, 0, none⟩) l := by
  intro j hj
  refine ⟨g, 0, rfl, fun q hq => ?_⟩
  rw [cell_of_row w g _ _ _ _ h, List.getElem?_toArray, Nat.zero_add]
  exact bl.get l j hj q hq
theorem set_row {w : World} {g : Nat} {l : List E} (k : Nat) (hk : k < l.length) (x : E) (h : w.heap[g]? = some (.cells (bl.cells l).toArray 60 (0, 0))) :
    (w.cell? ⟨g, k * 2, none⟩ = some (.int .i64 l[k].i) ∧ w.cell? ⟨g, k * 2 + 1, none⟩ = some (.int .i64 l[k].t) ∧ w.frozen? ⟨g, k * 2, none⟩ = false ∧ w.frozen? ⟨g, k * 2 + 1, none⟩ = false) ∧ ((w.setCell ⟨g, k * 2, none⟩ (.int .i64 x.i)).setCell ⟨g, k * 2 + 1, none⟩ (.int .i64 x.t)).heap[g]? = some (.cells (bl.cells (l.set k x)).toArray 60 (0, 0)) := by
  obtain ⟨b, off, e, c0, c1⟩ := (at_row h).getB k hk
  cases e
  rw [Nat.zero_add] at c0 c1
  refine ⟨⟨c0, c1, frozen_of_row w g _ _ _ h, frozen_of_row w g _ _ _ h⟩, ?_⟩
  have h1 := heap_setCell_same w g (k * 2) _ _ (.int .i64 x.i) h
  have h2 := heap_setCell_same _ g (k * 2 + 1) _ _ (.int .i64 x.t) h1
  rw [h2]
  have e1 := bl.set1 l k hk 0 (by decide) ⟨x.i, l[k].t⟩ (.int .i64 x.i) rfl
  have e2 := bl.set1 (l.set k ⟨x.i, l[k].t⟩) k (by simpa using hk) 1 (by decide) x (.int .i64 x.t) (by simp [bl])
  rw [← e1, List.set_set] at e2
  have e3 : (((bl.cells l).toArray.setIfInBounds (k * 2) (.int .i64 x.i)).setIfInBounds (k * 2 + 1) (.int .i64 x.t)) = (bl.cells (l.set k x)).toArray := by
    rw [← e2]
    simp [bl]
  rw [e3]
set_option maxRecDepth 100000 in
set_option maxHeartbeats 400000 in
theorem ballots_any (a : Option Addr) (cap : Nat) (l : List V) (w : World) (hat : AtL vl w a l) (hl : l.length ≤ 1000000) :
    Calls Try.prog 102 #[.slice a l.length cap] w (BOut w l) := by
  have hmk : (Instr.makeSlice 107 (.int .i64 (l.length : Int)) (.int .i64 (l.length : Int))).run Try.prog w = .ok (.slice (some ⟨w.heap.size, 0, none⟩) l.length l.length) (w.alloc (.cells (bl.cells (List.replicate l.length ⟨0, 0⟩)).toArray 60)) := by
    have h := run_make (P := Try.prog) w 107 60 Try.t60 (.agg #[.int .i64 0, .int .i64 0]) Try.underlying107 hi60 rfl .i64 .i64 (l.length : Int) (l.length : Int) (by omega) (by omega) (by show (16 : Int) * _ ≤ _; omega) (by omega)
    rw [show Try.t60.size = 2 from rfl, Int.toNat_natCast, made] at h
    exact h
  have hrow := heap_alloc_last w (.cells (bl.cells (List.replicate l.length ⟨0, 0⟩)).toArray 60)
  obtain ⟨W1, HW1⟩ : ∃ W1, Hid (w.alloc (.cells (bl.cells (List.replicate l.length ⟨0, 0⟩)).toArray 60) = W1) := ⟨_, Hid_of rfl⟩
  have HB1 : Hid (Below w.heap.size w W1) := by rw [← HW1.out]; exact bel1 w _
  rw [HW1.out] at hmk hrow
  have HR1 : Hid (W1.heap[w.heap.size]? = some (.cells (bl.cells (lst l 0)).toArray 60 (0, 0))) := by
    have e : lst l 0 = List.replicate l.length ⟨0, 0⟩ := by unfold lst; simp
    rw [e]
    exact hrow
  clear hrow HW1
  go_enter Try.func102, Try.ntmps102
  go_wp2
  go_loopw [11] (fun i wr => ∃ k : Nat, k ≤ l.length ∧ i = .int .i64 k ∧ Below w.heap.size w wr ∧ Hid (wr.heap[w.heap.size]? = some (.cells (bl.cells (lst l k)).toArray 60 (0, 0)))) (fun i _ => l.length - (intOf i).toNat)
  case atStart => exact ⟨0, by omega, rfl, HB1.out, HR1⟩
  case round =>
    obtain ⟨k, hk, rfl, hb, HR⟩ := hrel
    have HB := Hid_of hb
    by_cases hlt : k < l.length
    · have hki : (k : Int) < (l.length : Int) := by omega
      have HSE := Hid_of (lst_set l k hlt)
      obtain ⟨b, off, rfl, c0, c1, c2, c3⟩ := (hat.keep hb).getV k hlt
      obtain ⟨x, HX⟩ : ∃ x, Hid (l[k] = x) := ⟨_, Hid_of rfl⟩
      rw [HX.out] at c0 c1 c2 c3 HSE
      have hr2 := heap_alloc_last wr (.cells #[.int .i64 x.s, .int .i64 x.b.i, .int .i64 x.b.t, .string x.v] 84)
      obtain ⟨W2, HW2⟩ : ∃ W2, Hid (wr.alloc (.cells #[.int .i64 x.s, .int .i64 x.b.i, .int .i64 x.b.t, .string x.v] 84) = W2) := ⟨_, Hid_of rfl⟩
      have HBW : Hid (Below wr.heap.size wr W2) := by rw [← HW2.out]; exact bel1 wr _
      have HB2 : Hid (Below w.heap.size w W2) := bel_up HB.out HBW.out (Nat.le_refl _)
      rw [HW2.out] at hr2
      obtain ⟨⟨y0, y1, y2, y3⟩, -⟩ := row4 hr2
      have hlen := lst_len l k hk
      obtain ⟨⟨z0, z1, f0, f1⟩, hz⟩ := set_row k (by omega) x.b (bel_row HR.out HBW.out)
      have HZ := Hid_of hz
      generalize (lst l k)[k].i = u0 at *
      generalize (lst l k)[k].t = u1 at *
      clear hat hb hr2 hz hlen HR hmk
      go_upto_region 5 with fail
      rw [HW2.out]
      clear HW2 c0 c1 c2 c3
      go_wp2
      go_roundw
      case rel => exact ⟨k + 1, by omega, by go_num, (HB2.out.setCell (Nat.le_refl _) _).setCell (Nat.le_refl _) _, by rw [← HSE.out]; exact HZ⟩
      case measure => simp [intOf]; omega
    · obtain rfl : k = l.length := by omega
      have HA : Hid (AtL bl wr (some ⟨w.heap.size, 0, none⟩) (l.map V.b)) := by
        have := at_row HR.out
        rw [lst_all] at this
        exact this
      clear hat hb HR hmk
      go_wp2
      go_ret
      exact ⟨_, rfl, HA.out, HB.out⟩

end Go.Proofs.Ytgodnpngdbelhaa.Np
namespace Go.Proofs.Ytgodnpngdbelhaa.Np
open Go.RowKit
set_option linter.unusedVariables false
open Go.Proofs.Ytgodnpngdbelhaa.M (E V)

/-- Four cells of a block set. -/
def put4 (w : World) (g : Nat) (a b c d : Value) : World := (((w.setCell ⟨g, 0, none⟩ a).setCell ⟨g, 1, none⟩ b).setCell ⟨g, 2, none⟩ c).setCell ⟨g, 3, none⟩ d
theorem put4_row {w : World} {g : Nat} {t : TypeId} {v0 v1 v2 v3 : Value} (h : w.heap[g]? = some (.cells #[v0, v1, v2, v3] t (0, 0))) (a b c d : Value) : (put4 w g a b c d).heap[g]? = some (.cells #[a, b, c, d] t (0, 0)) :=
  heap_setCell_same _ g 3 _ _ _ (heap_setCell_same _ g 2 _ _ _ (heap_setCell_same _ g 1 _ _ _ (heap_setCell_same w g 0 _ _ _ h)))
theorem put4_bel {w0 w : World} {B g : Nat} (h : Below B w0 w) (hg : B ≤ g) (a b c d : Value) : Below B w0 (put4 w g a b c d) := (((h.setCell hg _).setCell hg _).setCell hg _).setCell hg _
theorem put4_oth {w : World} {g k : Nat} (h : k ≠ g) (a b c d : Value) : (put4 w g a b c d).heap[k]? = w.heap[k]? := by
  unfold put4
  rw [heap_setCell_other _ ⟨g, 3, none⟩ k _ h, heap_setCell_other _ ⟨g, 2, none⟩ k _ h, heap_setCell_other _ ⟨g, 1, none⟩ k _ h, heap_setCell_other _ ⟨g, 0, none⟩ k _ h]
theorem res4 {fn : Func} {p u : Tmp} (h : fn.results = #[.cell p 84, .tmp u]) (tmps : Array Value) (w : World) (g : Nat) (v0 v1 v2 v3 : Value) (hp : tmps.getD p undef = .pointer (some ⟨g, 0, none⟩)) (hg : w.heap[g]? = some (.cells #[v0, v1, v2, v3] 84 (0, 0))) :
    (results fn tmps).run Try.prog w = .ok (.tuple #[.agg #[v0, v1, v2, v3], tmps.getD u undef]) w := by
  have hp' : tmps[p]?.getD undef = .pointer (some ⟨g, 0, none⟩) := by simpa using hp
  rw [results_cell_tmp h]
  simp [asAddr, hp', run_loadVar_row w g 84 84 #[v0, v1, v2, v3] (0, 0) _ hg Try.underlying84 rfl Try.size84]
set_option maxRecDepth 100000 in
set_option maxHeartbeats 400000 in
theorem eq84 (s i t : Int) (v : ByteArray) (w : World) : (binOp .eql 84 (.agg #[.int .i64 s, .int .i64 i, .int .i64 t, .string v]) (.agg #[.int .i64 s, .int .i64 i, .int .i64 t, .string v])).run Try.prog w = .ok (.bool true) w := by
  have u3 := Try.underlying3
  have u9 := Try.underlying9
  have a3 := Try.isAgg3
  have a9 := Try.isAgg9
  have a28 := Try.isAgg60
  have z3 := Try.sizeOf3
  have z9 := Try.sizeOf9
  have z28 := Try.sizeOf60
  have hS : Try.prog.underlying 84 = some (.struct (Try.prog.fieldsOf 84)) := by kernel_rfl
  have hp : Try.prog.stoodInHeld 84 = false := by kernel_rfl
  have hS2 : Try.prog.underlying 60 = some (.struct (Try.prog.fieldsOf 60)) := by kernel_rfl
  have hp2 : Try.prog.stoodInHeld 60 = false := by kernel_rfl
  have h2 : (Op.equalIn 9998 60 (.agg #[.int .i64 i, .int .i64 t]) (.agg #[.int .i64 i, .int .i64 t])).run Try.prog w = .ok true w := by
    rw [show (9998 : Nat) = 9997 + 1 from rfl, run_equalIn_agg w 9997 60 _ _ hS2 hp2]
    simp only [Program.fieldsOf, Try.underlying60]
    go_simp
  clear hS2 hp2
  rw [run_eql_struct, show (10000 : Nat) = 9999 + 1 from rfl, run_equalIn_agg w 9999 84 _ _ hS hp]
  clear hS hp
  simp only [Program.fieldsOf, Try.underlying84]
  go_simp
theorem f99_res : Try.f99.results = #[.cell 2 84, .tmp 3] := rfl
set_option maxRecDepth 100000 in
set_option maxHeartbeats 1000000 in
theorem pick_any (a : Option Addr) (cap : Nat) (l : List V) (w : World) (hat : AtL vl w a l) (hl : l.length ≤ 1000000) (hv : ∀ x ∈ l, x.v.size ≤ 140737488351232) :
    Calls Try.prog 99 #[.slice a l.length cap] w fun e w' => e = .returned (.tuple #[.agg #[.int .i64 (M.vx l l.length).s, .int .i64 (M.vx l l.length).b.i, .int .i64 (M.vx l l.length).b.t, .string (M.vx l l.length).v], .bool (decide (0 < l.length))]) ∧ Below w.heap.size w w' := by
  obtain ⟨z, HZ⟩ : ∃ z, Hid (M.vx l l.length = z) := ⟨_, Hid_of rfl⟩
  rw [HZ.out]
  obtain ⟨nz, HNZ⟩ : ∃ nz, Hid (decide (0 < l.length) = nz) := ⟨_, Hid_of rfl⟩
  rw [HNZ.out]
  have hr1 := heap_alloc_last w (.cells #[.int .i64 0, .int .i64 0, .int .i64 0, .string ⟨#[]⟩] 84)
  obtain ⟨W1, HW1⟩ : ∃ W1, Hid (w.alloc (.cells #[.int .i64 0, .int .i64 0, .int .i64 0, .string ⟨#[]⟩] 84) = W1) := ⟨_, Hid_of rfl⟩
  have HB1 : Hid (Below w.heap.size w W1) := by rw [← HW1.out]; exact bel1 w _
  rw [HW1.out] at hr1
  have HR1 := Hid_of hr1
  clear hr1
  go_enter Try.func99, Try.ntmps99
  go_upto_region 1 with fail
  rw [HW1.out]
  clear HW1
  go_wp2_with fail
  refine (ballots_any a cap l W1 (hat.keep HB1.out) hl).mono ?_
  rintro e w2 ⟨a2, rfl, hat2, hb2⟩
  have hlm : (l.map V.b).length = l.length := by simp
  have hg := greatest_any a2 l.length (l.map V.b) w2 hat2 (by omega)
  rw [hlm] at hg
  have HB2 := Hid_of (bel_up HB1.out hb2 (Nat.le_refl _))
  have HR2 := Hid_of (bel_row HR1.out hb2)
  clear hb2 hlm hat2 HB1 HR1
  go_wp2_with fail
  refine hg.mono ?_
  clear hg
  rintro e w3 ⟨rfl, hb3⟩
  have HB3 := Hid_of (bel_up HB2.out hb3 (Nat.le_refl _))
  have hr3 := bel_row HR2.out hb3
  have HR3 := Hid_of hr3
  obtain ⟨⟨x0, x1, x2, x3⟩, xf⟩ := row4 hr3
  have f0 := xf 0
  have f1 := xf 1
  have f2 := xf 2
  have f3 := xf 3
  have hat3 := hat.keep HB3.out
  clear xf hr3 hat HB2 HR2 hb3
  rcases Nat.eq_zero_or_pos l.length with h0 | h0
  · have e1 : M.bi (l.map V.b) l.length = -1 := by rw [h0]; rfl
    obtain rfl : z = ⟨0, ⟨0, 0⟩, ⟨#[]⟩⟩ := by rw [← HZ.out, h0]; rfl
    obtain rfl : nz = false := by rw [← HNZ.out, h0]; rfl
    rw [e1]
    clear e1 hat3 h0 HZ HNZ hv
    go_wp2
    refine bodyPost_ret (v := .tuple #[.agg #[.int .i64 0, .int .i64 0, .int .i64 0, .string ⟨#[]⟩], .bool false]) ?_ rfl ⟨rfl, put4_bel HB3.out (Nat.le_refl _) _ _ _ _⟩
    exact res4 f99_res _ _ w.heap.size _ _ _ _ rfl (put4_row HR3.out _ _ _ _)
  · have hp := M.bst_lt (l.map V.b) l.length h0
    have e1 := M.bi_pos (l.map V.b) h0
    have e2 := M.vx_pos l h0 (Nat.le_refl _)
    rw [HZ.out] at e2
    obtain rfl : nz = true := by rw [← HNZ.out]; exact decide_eq_true h0
    rw [e1]
    obtain ⟨b, off, rfl, c0, c1, c2, c3⟩ := hat3.getV (M.bst (l.map V.b) l.length) hp
    rw [← e2] at c0 c1 c2 c3
    have hzv : z.v.size ≤ 140737488351232 := hv z (by rw [e2]; exact List.getElem_mem _)
    clear e1 e2 hat3 h0 HZ HNZ hv
    generalize M.bst (l.map V.b) l.length = p at *
    have hpi : (p : Int) < (l.length : Int) := by omega
    have hp0 : decide ((p : Int) < 0) = false := decide_eq_false (by omega)
    have hr4 := heap_alloc_last w3 (.cells #[.int .i64 z.s, .int .i64 z.b.i, .int .i64 z.b.t, .string z.v] 84)
    obtain ⟨W4, HW4⟩ : ∃ W4, Hid (w3.alloc (.cells #[.int .i64 z.s, .int .i64 z.b.i, .int .i64 z.b.t, .string z.v] 84) = W4) := ⟨_, Hid_of rfl⟩
    have HB4 : Hid (Below w3.heap.size w3 W4) := by rw [← HW4.out]; exact bel1 w3 _
    rw [HW4.out] at hr4
    have HR4 := Hid_of hr4
    obtain ⟨⟨y0, y1, y2, y3⟩, -⟩ := row4 hr4
    clear hr4
    go_upto_region 5 with fail
    rw [HW4.out]
    clear HW4 c0 c1 c2 c3 x0 x1 x2 x3 f0 f1 f2 f3
    go_wp2_with fail
    refine (sclone_any z.v W4 hzv).mono ?_
    rintro e w5 ⟨rfl, hb5⟩
    have hq5 := bel_row HR4.out hb5
    have hR5 := bel_row (bel_row HR3.out HB4.out) hb5
    have HB5 := Hid_of (bel_up (bel_up HB3.out HB4.out (Nat.le_refl _)) hb5 (Nat.le_refl _))
    have hne : w3.heap.size ≠ w.heap.size := by
      have := (Array.getElem?_eq_some_iff.1 HR3.out).1
      omega
    obtain ⟨⟨d0, d1, d2, d3⟩, df⟩ := row4 hq5
    have g3 := df 3
    have hq6 : (w5.setCell ⟨w3.heap.size, 3, none⟩ (.string z.v)).heap[w3.heap.size]? = some (.cells #[.int .i64 z.s, .int .i64 z.b.i, .int .i64 z.b.t, .string z.v] 84 (0, 0)) := heap_setCell_same w5 _ 3 _ _ _ hq5
    have hR6 : (w5.setCell ⟨w3.heap.size, 3, none⟩ (.string z.v)).heap[w.heap.size]? = some (.cells #[.int .i64 0, .int .i64 0, .int .i64 0, .string ⟨#[]⟩] 84 (0, 0)) := (heap_setCell_other w5 ⟨w3.heap.size, 3, none⟩ _ _ (Ne.symm hne)).trans hR5
    have HB6 : Hid (Below w.heap.size w (w5.setCell ⟨w3.heap.size, 3, none⟩ (.string z.v))) := Hid_of (HB5.out.setCell (HB3.out.size) _)
    obtain ⟨W6, HW6⟩ : ∃ W6, Hid (w5.setCell ⟨w3.heap.size, 3, none⟩ (.string z.v) = W6) := ⟨_, Hid_of rfl⟩
    rw [HW6.out] at hq6 hR6 HB6
    have HR6 := Hid_of hR6
    obtain ⟨⟨k0, k1, k2, k3⟩, -⟩ := row4 hq6
    obtain ⟨⟨x0, x1, x2, x3⟩, xf⟩ := row4 hR6
    have f0 := xf 0
    have f1 := xf 1
    have f2 := xf 2
    have f3 := xf 3
    clear xf df hq5 hR5 hq6 hR6 hb5 hne y0 y1 y2 y3 HB5 HR4 HR3 HB4
    go_upto_region 6 with fail
    rw [HW6.out]
    clear HW6 d0 d1 d2 d3 g3
    go_wp2
    refine bodyPost_ret (v := .tuple #[.agg #[.int .i64 z.s, .int .i64 z.b.i, .int .i64 z.b.t, .string z.v], .bool true]) ?_ rfl ⟨rfl, put4_bel HB6.out (Nat.le_refl _) _ _ _ _⟩
    exact res4 f99_res _ _ w.heap.size _ _ _ _ rfl (put4_row HR6.out _ _ _ _)

end Go.Proofs.Ytgodnpngdbelhaa.Np
namespace Go.Proofs.Ytgodnpngdbelhaa.Np
open Go.RowKit Go.Maps
set_option linter.unusedVariables false
open Go.Proofs.Ytgodnpngdbelhaa.M (E V)
open Go.Proofs.Ytgodnpngdbelhaa.Np.M (fup)

theorem row16 {w : World} {k : Nat} {v0 v1 v2 v3 v4 v5 v6 v7 v8 v9 v10 v11 v12 v13 v14 v15 : Value} {t : TypeId} (h : w.heap[k]? = some (.cells #[v0, v1, v2, v3, v4, v5, v6, v7, v8, v9, v10, v11, v12, v13, v14, v15] t (0, 0))) :
    (w.cell? ⟨k, 0, none⟩ = some v0 ∧ w.cell? ⟨k, 1, none⟩ = some v1 ∧ w.cell? ⟨k, 2, none⟩ = some v2 ∧ w.cell? ⟨k, 3, none⟩ = some v3 ∧ w.cell? ⟨k, 4, none⟩ = some v4 ∧ w.cell? ⟨k, 5, none⟩ = some v5 ∧ w.cell? ⟨k, 6, none⟩ = some v6 ∧ w.cell? ⟨k, 7, none⟩ = some v7 ∧ w.cell? ⟨k, 8, none⟩ = some v8 ∧ w.cell? ⟨k, 9, none⟩ = some v9 ∧ w.cell? ⟨k, 10, none⟩ = some v10 ∧ w.cell? ⟨k, 11, none⟩ = some v11 ∧ w.cell? ⟨k, 12, none⟩ = some v12 ∧ w.cell? ⟨k, 13, none⟩ = some v13 ∧ w.cell? ⟨k, 14, none⟩ = some v14 ∧ w.cell? ⟨k, 15, none⟩ = some v15) ∧ ∀ j, w.frozen? ⟨k, j, none⟩ = false :=
  ⟨⟨by rw [cell_of_row w k 0 _ _ _ h]; rfl, by rw [cell_of_row w k 1 _ _ _ h]; rfl, by rw [cell_of_row w k 2 _ _ _ h]; rfl, by rw [cell_of_row w k 3 _ _ _ h]; rfl, by rw [cell_of_row w k 4 _ _ _ h]; rfl, by rw [cell_of_row w k 5 _ _ _ h]; rfl, by rw [cell_of_row w k 6 _ _ _ h]; rfl, by rw [cell_of_row w k 7 _ _ _ h]; rfl, by rw [cell_of_row w k 8 _ _ _ h]; rfl, by rw [cell_of_row w k 9 _ _ _ h]; rfl, by rw [cell_of_row w k 10 _ _ _ h]; rfl, by rw [cell_of_row w k 11 _ _ _ h]; rfl, by rw [cell_of_row w k 12 _ _ _ h]; rfl, by rw [cell_of_row w k 13 _ _ _ h]; rfl, by rw [cell_of_row w k 14 _ _ _ h]; rfl, by rw [cell_of_row w k 15 _ _ _ h]; rfl⟩, fun j => frozen_of_row w k j _ _ h⟩
/-- The cells of a proposer. -/
abbrev prow (s : M.S) (mv : Option Nat) : Array Value := #[.int .i64 s.n, .int .i64 s.me, .int .i64 s.st, .int .i64 s.b.i, .int .i64 s.b.t, .int .i64 s.ask, .bool (s.who 0), .bool (s.who 1), .bool (s.who 2), .bool (s.who 3), .bool (s.who 4), .bool (s.who 5), .bool (s.who 6), .map mv, .int .i64 s.fin, .int .i64 s.nx]
/-- What is a proposer's own: its block, and its map's. -/
def fpp (b : Nat) (mv : Option Nat) (k : Nat) : Prop := k = b ∨ mv = some k
/-- The map of the votes, or none. -/
structure ML (w : World) (base : Nat) (mv : Option Nat) (s : M.S) : Prop where
  no : mv = none → ∀ k, s.f k = none
  yes : ∀ m, mv = some m → MI w m s.c s.f ∧ base ≤ m
/-- A proposer at block b. -/
structure PI (w : World) (base b : Nat) (mv : Option Nat) (s : M.S) : Prop where
  row : w.heap[b]? = some (.cells (prow s mv) 97 (0, 0))
  map : ML w base mv s
  lo : base ≤ b
section
variable {w w' : World} {base b : Nat} {mv : Option Nat} {s s' : M.S}
theorem ML.keepBut (h : ML w base mv s) (hb : ∀ m, mv = some m → w'.heap[m]? = w.heap[m]?) : ML w' base mv s :=
  ⟨h.no, fun m hm => ⟨(h.yes m hm).1.keep (hb m hm), (h.yes m hm).2⟩⟩
theorem ML.of (h : ML w base mv s) (hf : s'.f = s.f) (hc : s'.c = s.c) : ML w base mv s' := ⟨fun e k => by rw [hf]; exact h.no e k, fun m hm => by rw [hf, hc]; exact h.yes m hm⟩
theorem PI.keepBut (h : PI w base b mv s) (hb : ∀ k, k < w.heap.size → fpp b mv k → w'.heap[k]? = w.heap[k]?) : PI w' base b mv s :=
  ⟨(hb b (Array.getElem?_eq_some_iff.1 h.row).1 (.inl rfl)).trans h.row, h.map.keepBut (fun m hm => hb m (h.map.yes m hm).1.lt (.inr hm)), h.lo⟩
theorem PI.keep (h : PI w base b mv s) (hb : Below w.heap.size w w') : PI w' base b mv s := h.keepBut fun k hk _ => hb.block k hk
theorem PI.lt (h : PI w base b mv s) : b < w.heap.size := (Array.getElem?_eq_some_iff.1 h.row).1
theorem PI.mine (h : PI w base b mv s) : ∀ k, fpp b mv k → base ≤ k ∧ k < w.heap.size := by
  rintro k (rfl | hk)
  · exact ⟨h.lo, h.lt⟩
  · exact ⟨(h.map.yes k hk).2, (h.map.yes k hk).1.lt⟩
theorem PI.ne (h : PI w base b mv s) {m : Nat} (hm : mv = some m) : m ≠ b := fun e => (h.map.yes m hm).1.ne h.row e.symm
/-- One cell of its block is set. -/
theorem PI.cell (h : PI w base b mv s) (j : Nat) (v : Value) (hr : (prow s mv).setIfInBounds j v = prow s' mv) (hf : s'.f = s.f) (hc : s'.c = s.c) : PI (w.setCell ⟨b, j, none⟩ v) base b mv s' :=
  ⟨by rw [heap_setCell_same w b j _ _ _ h.row, hr], (h.map.keepBut (w' := w.setCell ⟨b, j, none⟩ v) (fun m hm => heap_setCell_other w ⟨b, j, none⟩ m _ (h.ne hm))).of hf hc, h.lo⟩
/-- Its map is another one. -/
theorem PI.remap (h : PI w base b mv s) {mv' : Option Nat} (hr : (prow s mv).setIfInBounds 13 (.map mv') = prow s' mv') (hm : ML (w.setCell ⟨b, 13, none⟩ (.map mv')) base mv' s') : PI (w.setCell ⟨b, 13, none⟩ (.map mv')) base b mv' s' :=
  ⟨by rw [heap_setCell_same w b 13 _ _ _ h.row, hr], hm, h.lo⟩
/-- What is looked up. -/
theorem ML.look (h : ML w base mv s) (k : Int) (hk : (Lit.int .i64 k).wf = true) : (Instr.lookup 95 (.map mv) (.int .i64 k) false).run Try.prog w = .ok (vV ((s.f k).getD zo)) w := by
  cases hm : mv with
  | none =>
    rw [h.no hm k]
    exact Maps.look_nil (w := w) false law3 Try.underlying95 (zero84 w) (keyOf_int_mk Try.underlying3 hk)
  | some m => exact (h.yes m hm).1.look k hk
theorem ML.lookOk (h : ML w base mv s) (k : Int) (hk : (Lit.int .i64 k).wf = true) : (Instr.lookup 95 (.map mv) (.int .i64 k) true).run Try.prog w = .ok (.tuple #[vV ((s.f k).getD zo), .bool (s.f k).isSome]) w := by
  cases hm : mv with
  | none =>
    rw [h.no hm k]
    exact Maps.look_nil (w := w) true law3 Try.underlying95 (zero84 w) (keyOf_int_mk Try.underlying3 hk)
  | some m => exact (h.yes m hm).1.lookOk k hk
end
theorem fr_cell {w : World} {b : Nat} {mv : Option Nat} (j : Nat) (v : Value) : Fr w (fpp b mv) (w.setCell ⟨b, j, none⟩ v) (fpp b mv) :=
  ⟨rfl, rfl, rfl, by simp, fun k _ hk => heap_setCell_other w ⟨b, j, none⟩ k _ (fun e => hk (.inl e)), fun k h => .inl h⟩
theorem wf_small {k : Int} (h0 : 0 ≤ k) (h1 : k < 1024) : (Lit.int .i64 k).wf = true := by
  have e1 : IntKind.i64.min = -9223372036854775808 := rfl
  have e2 : IntKind.i64.max = 9223372036854775807 := rfl
  simp only [Lit.wf, e1, e2, Bool.and_eq_true, decide_eq_true_eq]
  omega
theorem alloc16 (w : World) (v0 v1 v2 v3 v4 v5 v6 v7 v8 v9 v10 v11 v12 v13 v14 v15 : Value) (t : TypeId) : (w.alloc (.cells #[v0, v1, v2, v3, v4, v5, v6, v7, v8, v9, v10, v11, v12, v13, v14, v15] t)).heap[w.heap.size]? = some (.cells #[v0, v1, v2, v3, v4, v5, v6, v7, v8, v9, v10, v11, v12, v13, v14, v15] t (0, 0)) := heap_alloc_last w _
/-- What New leaves. -/
def NewOut (w : World) (n me : Int) (e : Ending) (w' : World) : Prop :=
  (M.nde n me = false ∧ e = .returned (.pointer none) ∧ w' = w) ∨ (M.nde n me = true ∧ ∃ b, e = .returned (.pointer (some ⟨b, 0, none⟩)) ∧ PI w' w.heap.size b none (M.S0 n me) ∧ Below w.heap.size w w' ∧ w.heap.size ≤ b)
theorem new_any (n me : Int) (w : World) : Calls Try.prog 43 #[.int .i64 n, .int .i64 me] w (NewOut w n me) := by
  have HB := Hid_of (fun o => bel1 w o)
  have HR := Hid_of (alloc16 w)
  by_cases h0 : n < 1
  · have HN : Hid (M.nde n me = false) := Hid_of (by unfold M.nde; simp; omega)
    have d0 : decide (n < 1) = true := decide_eq_true h0
    clear h0
    go_enter Try.func43, Try.ntmps43
    go_wp2
    go_ret
    exact .inl ⟨HN.out, rfl, rfl⟩
  · have d0 : decide (n < 1) = false := decide_eq_false h0
    by_cases h1 : 7 < n
    · have HN : Hid (M.nde n me = false) := Hid_of (by unfold M.nde; simp; omega)
      have d1 : decide (7 < n) = true := decide_eq_true h1
      clear h0 h1
      go_enter Try.func43, Try.ntmps43
      go_wp2
      go_ret
      exact .inl ⟨HN.out, rfl, rfl⟩
    · have d1 : decide (7 < n) = false := decide_eq_false h1
      by_cases h2 : me < 0
      · have HN : Hid (M.nde n me = false) := Hid_of (by unfold M.nde; simp; omega)
        have d2 : decide (me < 0) = true := decide_eq_true h2
        clear h0 h1 h2
        go_enter Try.func43, Try.ntmps43
        go_wp2
        go_ret
        exact .inl ⟨HN.out, rfl, rfl⟩
      · have d2 : decide (me < 0) = false := decide_eq_false h2
        by_cases h3 : n ≤ me
        · have HN : Hid (M.nde n me = false) := Hid_of (by unfold M.nde; simp; omega)
          have d3 : decide (n ≤ me) = true := decide_eq_true h3
          clear h0 h1 h2 h3
          go_enter Try.func43, Try.ntmps43
          go_wp2
          go_ret
          exact .inl ⟨HN.out, rfl, rfl⟩
        · have HN : Hid (M.nde n me = true) := Hid_of (by unfold M.nde; simp; omega)
          have d3 : decide (n ≤ me) = false := decide_eq_false h3
          clear h0 h1 h2 h3
          go_enter Try.func43, Try.ntmps43
          go_wp2
          go_ret
          exact .inr ⟨HN.out, w.heap.size, rfl, ⟨HR.out _ _ _ _ _ _ _ _ _ _ _ _ _ _ _ _ _, ⟨fun _ _ => rfl, fun m hm => by cases hm⟩, Nat.le_refl _⟩, HB.out _, Nat.le_refl _⟩
theorem isSlot_any (k : Int) (w : World) : Calls Try.prog 62 #[.int .i64 k] w fun e w' => e = .returned (.bool (M.slot k)) ∧ w' = w := by
  by_cases h0 : 0 ≤ k
  · have HN : Hid (M.slot k = decide (k < 1024)) := Hid_of (by unfold M.slot; rw [decide_eq_true h0, Bool.true_and])
    have d0 : decide (0 ≤ k) = true := decide_eq_true h0
    rw [HN.out]
    clear HN
    go_enter Try.func62, Try.ntmps62
    go_wp2
    go_ret
    exact ⟨rfl, rfl⟩
  · have HN : Hid (M.slot k = false) := Hid_of (by unfold M.slot; rw [decide_eq_false h0, Bool.false_and])
    have d0 : decide (0 ≤ k) = false := decide_eq_false h0
    rw [HN.out]
    clear HN
    go_enter Try.func62, Try.ntmps62
    go_wp2
    go_ret
    exact ⟨rfl, rfl⟩
section
variable {w : World} {base b : Nat} {mv : Option Nat} {s : M.S}
theorem leads_any (h : PI w base b mv s) : Calls Try.prog 59 #[.pointer (some ⟨b, 0, none⟩)] w fun e w' => e = .returned (.bool (decide (2 ≤ s.st))) ∧ w' = w := by
  obtain ⟨⟨c0, c1, c2, c3, c4, c5, c6, c7, c8, c9, c10, c11, c12, c13, c14, c15⟩, _⟩ := row16 h.row
  clear h
  go_enter Try.func59, Try.ntmps59
  go_wp2
  go_ret
  exact ⟨rfl, rfl⟩
theorem mayPropose_any (h : PI w base b mv s) (v : ByteArray) : Calls Try.prog 68 #[.pointer (some ⟨b, 0, none⟩), .string v] w fun e w' => e = .returned (.int .i64 (M.ppc s v)) ∧ w' = w := by
  have hL := leads_any h
  obtain ⟨⟨c0, c1, c2, c3, c4, c5, c6, c7, c8, c9, c10, c11, c12, c13, c14, c15⟩, _⟩ := row16 h.row
  clear h
  by_cases h0 : 4096 < v.size
  · have HN : Hid (M.ppc s v = 2) := Hid_of (by unfold M.ppc; rw [if_pos h0])
    have d0 : decide ((4096 : Int) < (v.size : Int)) = true := decide_eq_true (by omega)
    rw [HN.out]
    clear HN h0
    go_enter Try.func68, Try.ntmps68
    go_wp2
    go_ret
    exact ⟨rfl, rfl⟩
  · have d0 : decide ((4096 : Int) < (v.size : Int)) = false := decide_eq_false (by omega)
    by_cases h1 : 1024 ≤ s.nx
    · have HN : Hid (M.ppc s v = 5) := Hid_of (by unfold M.ppc; rw [if_neg h0, if_pos h1])
      have d1 : decide (1024 ≤ s.nx) = true := decide_eq_true h1
      rw [HN.out]
      clear HN h0 h1
      go_enter Try.func68, Try.ntmps68
      go_wp2
      go_ret
      exact ⟨rfl, rfl⟩
    · have d1 : decide (1024 ≤ s.nx) = false := decide_eq_false h1
      by_cases h2 : s.st < 2
      · have HN : Hid (M.ppc s v = 16) := Hid_of (by unfold M.ppc; rw [if_neg h0, if_neg h1, if_pos h2])
        have d2 : decide (2 ≤ s.st) = false := decide_eq_false (by omega)
        rw [HN.out]
        rw [d2] at hL
        clear HN h0 h1 h2 d2
        go_enter Try.func68, Try.ntmps68
        go_wp2_with fail
        refine hL.mono ?_
        rintro e w1 ⟨rfl, rfl⟩
        go_wp2
        go_ret
        exact ⟨rfl, rfl⟩
      · have HN : Hid (M.ppc s v = 0) := Hid_of (by unfold M.ppc; rw [if_neg h0, if_neg h1, if_neg h2])
        have d2 : decide (2 ≤ s.st) = true := decide_eq_true (by omega)
        rw [HN.out]
        rw [d2] at hL
        clear HN h0 h1 h2 d2
        go_enter Try.func68, Try.ntmps68
        go_wp2_with fail
        refine hL.mono ?_
        rintro e w1 ⟨rfl, rfl⟩
        go_wp2
        go_ret
        exact ⟨rfl, rfl⟩
theorem index94 (g : Nat → Bool) (k : Nat) (hk : k < 7) (w : World) : (Instr.index 94 (.agg #[.bool (g 0), .bool (g 1), .bool (g 2), .bool (g 3), .bool (g 4), .bool (g 5), .bool (g 6)]) (.int .i64 k)).run Try.prog w = .ok (.bool (g k)) w := by
  obtain rfl | rfl | rfl | rfl | rfl | rfl | rfl : k = 0 ∨ k = 1 ∨ k = 2 ∨ k = 3 ∨ k = 4 ∨ k = 5 ∨ k = 6 := by omega
  all_goals kernel_rfl
theorem promises_any (h : PI w base b mv s) : Calls Try.prog 94 #[.pointer (some ⟨b, 0, none⟩)] w fun e w' => e = .returned (.int .i64 (M.wcnt s.who 7 : Nat)) ∧ w' = w := by
  obtain ⟨⟨c0, c1, c2, c3, c4, c5, c6, c7, c8, c9, c10, c11, c12, c13, c14, c15⟩, _⟩ := row16 h.row
  clear h
  go_enter Try.func94, Try.ntmps94
  go_wp2
  go_loopw [3, 10] (fun t i wr => ∃ k : Nat, k ≤ 7 ∧ i = .int .i64 k ∧ t = .int .i64 (M.wcnt s.who k : Nat) ∧ wr = w) (fun t i _ => 7 - (intOf i).toNat)
  case atStart => exact ⟨0, by omega, rfl, rfl, rfl⟩
  case round =>
    obtain ⟨k, hk, rfl, rfl, rfl⟩ := hrel
    have hle : ∀ g m, M.wcnt g m ≤ m := by
      intro g m
      induction m with
      | zero => exact Nat.le_refl _
      | succ m ih => rw [M.wcnt]; split <;> omega
    have hl := hle s.who k
    clear hle
    by_cases hlt : k < 7
    · have HE : Hid (M.wcnt s.who (k + 1) = M.wcnt s.who k + (if s.who k then 1 else 0)) := Hid_of rfl
      generalize M.wcnt s.who k = q0 at *
      have hg := fun w => index94 s.who k hlt w
      have hk7 : (k : Int) < 7 := by omega
      cases hw : s.who k with
      | false =>
        rw [hw] at HE hg
        simp only [Bool.false_eq_true, if_false, Nat.add_zero] at HE
        go_wp2
        go_roundw
        case rel => exact ⟨k + 1, by omega, by go_num, by rw [HE.out], trivial⟩
        case measure => simp [intOf]; omega
      | true =>
        rw [hw] at HE hg
        simp only [if_true] at HE
        go_wp2
        go_roundw
        case rel => exact ⟨k + 1, by omega, by go_num, by rw [HE.out]; go_num, trivial⟩
        case measure => simp [intOf]; omega
    · obtain rfl : k = 7 := by omega
      go_wp2
      go_ret
      exact ⟨rfl, rfl⟩
end
end Go.Proofs.Ytgodnpngdbelhaa.Np
