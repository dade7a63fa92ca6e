/-
  A file in memory, and how its pieces are parted.
-/
import Derived.Test.YtajgjkkggppbiaaG
namespace Go.Proofs.Ytajgjkkggppbiaa
open Go.RowKit
set_option linter.unusedVariables false
open M (E)

theorem sm_of_ok {p : E} (h : M.Ok p) : SmE p := by
  obtain ⟨h1, h2, h3, h4, h5, h6⟩ := h
  exact ⟨⟨by omega, by omega⟩, ⟨by omega, by omega⟩, ⟨by omega, by omega⟩⟩
theorem sm_of_G {l : List E} (h : M.G l) : ∀ p ∈ l, SmE p := fun p hp => sm_of_ok (h.1 p hp)
theorem mono_kE {l : List E} (h : M.G l) : ∀ i j (hi : i < l.length) (hj : j < l.length), i ≤ j → kE l[i] ≤ kE l[j] := by
  intro i j hi hj hij
  rcases Nat.eq_or_lt_of_le hij with rfl | hlt
  · exact Int.le_refl _
  · have hR := (List.pairwise_iff_getElem.1 h.2) i j hi hj hlt
    have := hR.1
    have := (h.1 l[j] (List.getElem_mem hj)).2.1
    unfold kE
    omega
theorem mono_kB {l : List E} (h : M.G l) : ∀ i j (hi : i < l.length) (hj : j < l.length), i ≤ j → kB l[i] ≤ kB l[j] := by
  intro i j hi hj hij
  rcases Nat.eq_or_lt_of_le hij with rfl | hlt
  · exact Int.le_refl _
  · have hR := (List.pairwise_iff_getElem.1 h.2) i j hi hj hlt
    have := hR.1
    have := (h.1 l[i] (List.getElem_mem hi)).2.1
    unfold kB
    omega
/-- The pieces that lie between two places. -/
def mid (l : List E) (r1 r2 : Nat) : List E := (l.drop r1).take (r2 - r1)
theorem mid_len (l : List E) (r1 r2 : Nat) (h : r2 ≤ l.length) : (mid l r1 r2).length = r2 - r1 := by unfold mid; simp; omega
theorem mid_get (l : List E) (r1 r2 k : Nat) (h : k < (mid l r1 r2).length) (h' : r1 + k < l.length) : (mid l r1 r2)[k] = l[r1 + k] := by simp [mid]
theorem mid_parts (l : List E) (r1 r2 : Nat) (h : r1 ≤ r2) : l.take r1 ++ mid l r1 r2 ++ l.drop r2 = l := by
  unfold mid
  have e : (l.drop r1).take (r2 - r1) ++ l.drop r2 = l.drop r1 := by
    have := List.take_append_drop (r2 - r1) (l.drop r1)
    rw [List.drop_drop, show r1 + (r2 - r1) = r2 by omega] at this
    exact this
  rw [List.append_assoc, e, List.take_append_drop]
theorem srch_take {key : E → Int} {l : List E} {c : Int} {r : Nat} (h : Srch key l c r) : ∀ p ∈ l.take r, key p < c := by
  intro p hp
  obtain ⟨k, hk, rfl⟩ := List.getElem_of_mem hp
  rw [List.getElem_take]
  simp at hk
  exact h.lo k (by omega) (by omega)
theorem srch_drop {key : E → Int} {l : List E} {c : Int} {r : Nat} (h : Srch key l c r) : ∀ p ∈ l.drop r, c ≤ key p := by
  intro p hp
  obtain ⟨k, hk, rfl⟩ := List.getElem_of_mem hp
  rw [List.getElem_drop]
  simp at hk
  exact h.hi (r + k) (by omega) (by omega)
theorem srch_le {l : List E} {c c' : Int} {r1 r2 : Nat} (hg : M.G l) (h1 : Srch kE l c r1) (h2 : Srch kB l c' r2) (hc : c ≤ c' + 1) : r1 ≤ r2 := by
  rcases Nat.lt_or_ge r2 r1 with hlt | hge
  · exfalso
    have hl := h1.le
    have a := h1.lo r2 (by omega) hlt
    have b := h2.hi r2 (by omega) (Nat.le_refl _)
    have := (hg.1 l[r2] (List.getElem_mem (by omega))).2.1
    unfold kE at a
    unfold kB at b
    omega
  · exact hge
theorem srch_mid {l : List E} {c c' : Int} {r1 r2 : Nat} (h1 : Srch kE l c r1) (h2 : Srch kB l c' r2) : ∀ p ∈ mid l r1 r2, c ≤ kE p ∧ kB p < c' := by
  intro p hp
  have hl := h2.le
  obtain ⟨k, hk, rfl⟩ := List.getElem_of_mem hp
  rw [mid_len l r1 r2 hl] at hk
  rw [mid_get l r1 r2 k _ (by omega)]
  exact ⟨h1.hi _ _ (by omega), h2.lo _ _ (by omega)⟩
theorem AtE.mid {w : World} {g cap : Nat} {l : List E} (h : AtE w (some ⟨g, 0, none⟩) l) (r1 r2 : Nat) (hr : r2 ≤ l.length) : AtE w (some ⟨g, r1 * 4, none⟩) (mid l r1 r2) := by
  intro j hj
  have hj' := hj
  rw [mid_len l r1 r2 hr] at hj'
  rw [mid_get l r1 r2 j hj (by omega)]
  obtain ⟨b, off, e, h0, h1, h2, h3⟩ := h (r1 + j) (by omega)
  simp only [Option.some.injEq, Addr.mk.injEq, and_true] at e
  obtain ⟨rfl, rfl⟩ := e
  have e : 0 + (r1 + j) * 4 = r1 * 4 + j * 4 := by omega
  rw [e] at h0 h1 h2 h3
  exact ⟨g, r1 * 4, rfl, h0, h1, h2, h3⟩

/-- A file at block b. -/
structure XI (w : World) (base b : Nat) (v : Value) (P : List E) : Prop where
  row : w.heap[b]? = some (.cells #[v] 54 (0, 0))
  own : Own w base v P
  ne : v.ownBlock ≠ some b
  g : M.G P
theorem XI.lt {w : World} {base b : Nat} {v : Value} {P : List E} (h : XI w base b v P) : b < w.heap.size := (Array.getElem?_eq_some_iff.1 h.row).1
theorem XI.c0 {w : World} {base b : Nat} {v : Value} {P : List E} (h : XI w base b v P) : w.cell? ⟨b, 0, none⟩ = some v := by rw [cell_of_row w b 0 _ _ _ h.row]; rfl
theorem XI.free {w : World} {base b : Nat} {v : Value} {P : List E} (h : XI w base b v P) (j : Nat) : w.frozen? ⟨b, j, none⟩ = false := frozen_of_row w b j _ _ h.row
theorem XI.keep {w w' : World} {base b : Nat} {v : Value} {P : List E} (h : XI w base b v P) (hb : Below w.heap.size w w') : XI w' base b v P :=
  ⟨(hb.block b h.lt).trans h.row, h.own.keep hb, h.ne, h.g⟩
theorem XI.len {w : World} {base b : Nat} {v : Value} {P : List E} (h : XI w base b v P) : P.length ≤ 16384 := M.G_len h.g
/-- What has become of a file: nothing else has changed; its pieces lie where they lay, or in new memory. -/
structure Ch (w : World) (b : Nat) (v : Value) (w' : World) (v' : Value) : Prop where
  os : w'.os = w.os
  tape : w'.tape = w.tape
  output : w'.output = w.output
  size : w.heap.size ≤ w'.heap.size
  block : ∀ k, k < w.heap.size → k ≠ b → v.ownBlock ≠ some k → w'.heap[k]? = w.heap[k]?
  n : ∀ k, v'.ownBlock = some k → v.ownBlock = some k ∨ w.heap.size ≤ k
theorem Ch.refl (w : World) (b : Nat) (v : Value) : Ch w b v w v := ⟨rfl, rfl, rfl, Nat.le_refl _, fun _ _ _ _ => rfl, fun k h => .inl h⟩
theorem Ch.ofBelow {w w1 : World} {b : Nat} {v : Value} (h : Below w.heap.size w w1) : Ch w b v w1 v := ⟨h.os, h.tape, h.output, h.size, fun k hk _ _ => h.block k hk, fun k h => .inl h⟩
theorem Ch.trans {w w1 w2 : World} {b : Nat} {v v1 v2 : Value} (h : Ch w b v w1 v1) (k : Ch w1 b v1 w2 v2) : Ch w b v w2 v2 := by
  refine ⟨k.os.trans h.os, k.tape.trans h.tape, k.output.trans h.output, Nat.le_trans h.size k.size, fun c hc hb hv => ?_, fun c hc => ?_⟩
  · rw [k.block c (Nat.lt_of_lt_of_le hc h.size) hb (fun e => by
      rcases h.n c e with h' | h'
      · exact hv h'
      · omega)]
    exact h.block c hc hb hv
  · rcases k.n c hc with h' | h'
    · exact h.n c h'
    · exact .inr (Nat.le_trans h.size h')
theorem Ch.below {B : Nat} {w w1 : World} {b : Nat} {v v1 : Value} (h : Ch w b v w1 v1) (hb : B ≤ b) (hv : ∀ k, v.ownBlock = some k → B ≤ k) (hB : B ≤ w.heap.size) : Below B w w1 :=
  ⟨h.os, h.tape, h.output, h.size, fun k hk => h.block k (by omega) (by omega) (fun e => by have := hv k e; omega)⟩
theorem XI.low {w : World} {base b : Nat} {v : Value} {P : List E} (h : XI w base b v P) : ∀ k, v.ownBlock = some k → base ≤ k := fun k hk => (h.own.lt k hk).1
/-- A new row in the place of the old one. -/
theorem XI.put {w w1 : World} {base b : Nat} {v v' : Value} {P P' : List E} (h : XI w base b v P) (hr : Rw w v w1 v') (ho : Own w1 base v' P') (hg : M.G P') : XI (w1.setCell ⟨b, 0, none⟩ v') base b v' P' ∧ Ch w b v (w1.setCell ⟨b, 0, none⟩ v') v' := by
  have hrow : w1.heap[b]? = some (.cells #[v] 54 (0, 0)) := (hr.g.block b h.lt (fun e => h.ne e.symm)).trans h.row
  have hne : v'.ownBlock ≠ some b := by
    intro e
    rcases hr.n b e with h' | h'
    · exact h.ne h'
    · have := h.lt; omega
  have hgr : w1.grownBy (w1.setCell ⟨b, 0, none⟩ v') (some b) := ⟨rfl, rfl, rfl, by simp, fun k hk hne => heap_setCell_other w1 ⟨b, 0, none⟩ k _ (fun e => hne (by rw [e]))⟩
  refine ⟨⟨heap_setCell_same w1 b 0 _ _ _ hrow, World.ownsRow.kept ho hgr (.inr hne), hne, hg⟩, ⟨hr.g.os, hr.g.tape, hr.g.output, Nat.le_trans hr.g.size hgr.size, fun k hk hb hv => ?_, hr.n⟩⟩
  rw [hgr.block k (Nat.lt_of_lt_of_le hk hr.g.size) (by simp; omega)]
  exact hr.g.block k hk (fun e => hv e.symm)
theorem XI.c1 {w w1 : World} {base b : Nat} {v v' : Value} {P : List E} (h : XI w base b v P) (hr : Rw w v w1 v') : w1.cell? ⟨b, 0, none⟩ = some v ∧ w1.frozen? ⟨b, 0, none⟩ = false := by
  have hrow : w1.heap[b]? = some (.cells #[v] 54 (0, 0)) := (hr.g.block b h.lt (fun e => h.ne e.symm)).trans h.row
  exact ⟨by rw [cell_of_row w1 b 0 _ _ _ hrow]; rfl, frozen_of_row w1 b 0 _ _ hrow⟩
end Go.Proofs.Ytajgjkkggppbiaa
