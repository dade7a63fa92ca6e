/-
  Rows of texts in memory: read, of one's own, and what is left of one.
-/
import Derived.Test.YtlknknacjpnmeaaRows
import Derived.Test.YtlknknacjpnmeaaM
import Derived.WalkKit
import Derived.WalkSpells
import Derived.WalkLawsBesides
import Derived.Deep.QuietTactic
import Derived.BigQuiet
import Derived.BigRegion
import Derived.RegionTactic
import Derived.Deep.RegionWith
import Derived.Deep.RegionLaw
import Derived.ProofKit
import Derived.Below
import Derived.Deep.WholeRow
import Derived.Laws.AppendOwn
import Derived.Laws.CopyRow
import Derived.Lib.Hide
import Derived.Lib.Walk
import Derived.Deep.RegionHeld3
import Derived.Deep.AppendLies
import Derived.Lib.SliceRun
namespace Go.Proofs.Ytlknknacjpnmeaa
open Go.RowKit
set_option linter.unusedVariables false

theorem Hid_of {p : Prop} (h : p) : Hid p := h
theorem below_drewN {B : Nat} {a w : World} (h : Below B a w) (n : Nat) : Below B a (w.drewN n) := ⟨h.os, h.tape, h.output, h.size, h.block⟩
theorem bel1 (w : World) (o : Obj) : Below w.heap.size w (w.alloc o) := (Below.refl w.heap.size w).alloc (Nat.le_refl _) o
theorem bel_up {B : Nat} {w w1 w2 : World} (h : Below B w w1) (h2 : Below w1.heap.size w1 w2) (hB : B ≤ w.heap.size) : Below B w w2 := h.trans (h2.mono (Nat.le_trans hB h.size))
theorem row2 {w : World} {k : Nat} {v0 v1 : Value} {t : TypeId} (h : w.heap[k]? = some (.cells #[v0, v1] t (0, 0))) :
    (w.cell? ⟨k, 0, none⟩ = some v0 ∧ w.cell? ⟨k, 1, none⟩ = some v1) ∧ ∀ j, w.frozen? ⟨k, j, none⟩ = false :=
  ⟨⟨by rw [cell_of_row w k 0 _ _ _ h]; rfl, by rw [cell_of_row w k 1 _ _ _ h]; rfl⟩, fun j => frozen_of_row w k j _ _ h⟩
theorem row3 {w : World} {k : Nat} {v0 v1 v2 : Value} {t : TypeId} (h : w.heap[k]? = some (.cells #[v0, v1, v2] t (0, 0))) :
    w.cell? ⟨k, 0, none⟩ = some v0 ∧ w.cell? ⟨k, 1, none⟩ = some v1 ∧ w.cell? ⟨k, 2, none⟩ = some v2 :=
  ⟨by rw [cell_of_row w k 0 _ _ _ h]; rfl, by rw [cell_of_row w k 1 _ _ _ h]; rfl, by rw [cell_of_row w k 2 _ _ _ h]; rfl⟩
theorem cell_one (w : World) (B : Nat) (v : Value) (t : TypeId) (h : w.heap[B]? = some (.cells #[v] t (0, 0))) : ∀ (j : Nat) (x : Value), [v][j]? = some x → w.cell? ((⟨B, 0, none⟩ : Addr).add j) = some x := by
  intro j x hx
  have hadd : (⟨B, 0, none⟩ : Addr).add j = ⟨B, j, none⟩ := by unfold Addr.add; split <;> simp_all
  rw [hadd, cell_of_row _ _ j _ _ _ h]
  simpa using hx
/-- The cells of texts. -/
def SC (l : List ByteArray) : List Value := l.map Value.string
theorem SC_app (l q : List ByteArray) : SC (l ++ q) = SC l ++ SC q := by simp [SC]
theorem SC_len (l : List ByteArray) : (SC l).length = l.length := by simp [SC]
theorem SC_get (l : List ByteArray) (j : Nat) (h : j < l.length) : (SC l)[j]? = some (.string l[j]) := by simp [SC, h]
theorem SC_one (l : List ByteArray) : ∀ v ∈ SC l, v.oneCell' = true := by
  intro v h
  simp only [SC, List.mem_map] at h
  obtain ⟨s, _, rfl⟩ := h
  rfl
theorem SC_take (l : List ByteArray) (k : Nat) : (SC l).take k = SC (l.take k) := by simp [SC]
theorem SC_drop (l : List ByteArray) (k : Nat) : (SC l).drop k = SC (l.drop k) := by simp [SC]
/-- The blocks that a slice lies in. -/
def blk (a : Option Addr) (k : Nat) : Prop := ∃ off s, a = some ⟨k, off, s⟩
/-- A slice of texts in memory. -/
def AtT (w : World) (a : Option Addr) (l : List ByteArray) : Prop :=
  ∀ j (h : j < l.length), ∃ b off, a = some ⟨b, off, none⟩ ∧ w.cell? ⟨b, off + j, none⟩ = some (.string l[j])
theorem AtT.nil (w : World) (a : Option Addr) : AtT w a [] := fun j h => by simp at h
theorem AtT.keepBut {w w' : World} {a : Option Addr} {l : List ByteArray} (h : AtT w a l) (hb : ∀ k, k < w.heap.size → blk a k → w'.heap[k]? = w.heap[k]?) : AtT w' a l := by
  intro j hj
  obtain ⟨b, off, rfl, h0⟩ := h j hj
  have hk := hb b (World.block_lt_of_cell? w _ h0) ⟨off, none, rfl⟩
  exact ⟨b, off, rfl, (World.cell?_of_block (w := w) (a := ⟨b, off + j, none⟩) hk).trans h0⟩
theorem AtT.keep {w w' : World} {a : Option Addr} {l : List ByteArray} (h : AtT w a l) (hb : Below w.heap.size w w') : AtT w' a l := h.keepBut fun k hk _ => hb.block k hk
theorem atT_cells {w : World} {b off : Nat} {s : List ByteArray} (h : AtT w (some ⟨b, off, none⟩) s) : ∀ j u, (SC s)[j]? = some u → w.cell? ((⟨b, off, none⟩ : Addr).add j) = some u := by
  intro j u hu
  have hj : j < s.length := by
    have := (List.getElem?_eq_some_iff.1 hu).1
    rwa [SC_len] at this
  rw [SC_get s j hj] at hu
  obtain ⟨b', off', e, hc⟩ := h j hj
  cases e
  rw [show ((⟨b, off, none⟩ : Addr).add j) = ⟨b, off + j, none⟩ by unfold Addr.add; split <;> simp_all, hc]
  exact hu
theorem AtT.drop {w : World} {b off : Nat} {l : List ByteArray} (h : AtT w (some ⟨b, off, none⟩) l) (q : Nat) : AtT w (some ⟨b, off + q, none⟩) (l.drop q) := by
  intro j hj
  simp only [List.length_drop] at hj
  rw [List.getElem_drop]
  obtain ⟨b', off', e, h0⟩ := h (q + j) (by omega)
  cases e
  exact ⟨b, off + q, rfl, by rw [Nat.add_assoc]; exact h0⟩
/-- A row of texts of one's own. -/
def OwnT (w : World) (base : Nat) (v : Value) (l : List ByteArray) : Prop := w.ownsRow base 9 1 v l.length (SC l)
theorem OwnT.nil (w : World) (base : Nat) : OwnT w base (.slice none 0 0) [] := World.ownsRow_nil _ _ _ _
theorem OwnT.at {w : World} {base : Nat} {v : Value} {l : List ByteArray} (h : OwnT w base v l) :
    ∃ a cap, v = .slice a l.length cap ∧ AtT w a l ∧ (∀ k, blk a k → base ≤ k ∧ v.ownBlock = some k ∧ k < w.heap.size) ∧ l.length ≤ cap ∧ cap ≤ maxLen ∧ (a = none → cap = 0) := by
  rcases h.2 with ⟨rfl, h0⟩ | ⟨g, cap, cur, rfl, hb', hh, hc, hm, hs, ht⟩
  · have e : l = [] := List.length_eq_zero_iff.1 h0
    subst e
    exact ⟨none, 0, rfl, (fun j h => by simp at h), (fun k hk => by obtain ⟨_, _, h⟩ := hk; cases h), by simp, by decide, fun _ => rfl⟩
  · refine ⟨some ⟨g, 0, none⟩, cap, rfl, fun j hj => ⟨g, 0, rfl, ?_⟩, (fun k hk => by obtain ⟨_, _, h⟩ := hk; simp at h; obtain ⟨rfl, _⟩ := h; exact ⟨hb', rfl, (Array.getElem?_eq_some_iff.1 hh).1⟩), hc, hm, fun h => by cases h⟩
    have := World.ownsRow.cells h (g := g) rfl j (.string l[j]) (SC_get l j hj)
    rwa [show ((⟨g, 0, none⟩ : Addr).add j) = ⟨g, 0 + j, none⟩ by unfold Addr.add; split <;> simp_all] at this
/-- What has become of a row: nothing else has changed; it lies where it lay, or in new memory. -/
structure Rw (w : World) (v : Value) (w' : World) (v' : Value) : Prop where
  g : w.grownBy w' v.ownBlock
  n : ∀ k, v'.ownBlock = some k → v.ownBlock = some k ∨ w.heap.size ≤ k
theorem Rw.refl (w : World) (v : Value) : Rw w v w v := ⟨⟨rfl, rfl, rfl, Nat.le_refl _, fun _ _ _ => rfl⟩, fun k h => .inl h⟩
theorem Rw.trans {w w1 w2 : World} {v v1 v2 : Value} (h : Rw w v w1 v1) (k : Rw w1 v1 w2 v2) : Rw w v w2 v2 := by
  refine ⟨⟨k.g.os.trans h.g.os, k.g.tape.trans h.g.tape, k.g.output.trans h.g.output, Nat.le_trans h.g.size k.g.size, fun b hb hne => ?_⟩, fun b hb => ?_⟩
  · rw [k.g.block b (Nat.lt_of_lt_of_le hb h.g.size) (fun e => by
      rcases h.n b e.symm with h' | h'
      · exact hne h'.symm
      · omega)]
    exact h.g.block b hb hne
  · rcases k.n b hb with h' | h'
    · exact h.n b h'
    · exact .inr (Nat.le_trans h.g.size h')
theorem Rw.ofBelow {w w1 : World} (v : Value) (h : Below w.heap.size w w1) : Rw w v w1 v := ⟨⟨h.os, h.tape, h.output, h.size, fun k hk _ => h.block k hk⟩, fun k h => .inl h⟩
theorem Rw.below {B : Nat} {w w1 : World} {v v1 : Value} (h : Rw w v w1 v1) (hv : ∀ k, v.ownBlock = some k → B ≤ k) (hB : B ≤ w.heap.size) : Below B w w1 :=
  ⟨h.g.os, h.g.tape, h.g.output, h.g.size, fun k hk => h.g.block k (by omega) (fun e => by have := hv k e.symm; omega)⟩
theorem rw_lies {w w3 : World} {v : Value} {g n cp H : Nat} (hgrow : w.grownBy w3 v.ownBlock) (hat : v.ownBlock = some g ∨ g = H) (hH : w.heap.size = H) : Rw w v w3 (.slice (some ⟨g, 0, none⟩) n cp) := by
  refine ⟨hgrow, fun k hk => ?_⟩
  simp only [Value.ownBlock, Option.some.injEq] at hk
  subst hk
  rcases hat with h | h
  · exact .inl h
  · exact .inr (by omega)
theorem owns_keepBut {w w1 : World} {base : Nat} {t : TypeId} {s : Nat} {v : Value} {n : Nat} {cs : List Value} (h : w.ownsRow base t s v n cs) (hb : ∀ k, k < w.heap.size → v.ownBlock = some k → w1.heap[k]? = w.heap[k]?) : w1.ownsRow base t s v n cs := by
  refine ⟨h.1, ?_⟩
  rcases h.2 with ⟨rfl, h0⟩ | ⟨g, cap, cur, rfl, hb', hh, hc, hm, hs, ht⟩
  · exact .inl ⟨rfl, h0⟩
  · exact .inr ⟨g, cap, cur, rfl, hb', (hb g (Array.getElem?_eq_some_iff.1 hh).1 rfl).trans hh, hc, hm, hs, ht⟩
theorem owns_low {w : World} {base base' : Nat} {t : TypeId} {s : Nat} {v : Value} {n : Nat} {cs : List Value} (h : w.ownsRow base t s v n cs) (hb : base' ≤ base) : w.ownsRow base' t s v n cs := by
  refine ⟨h.1, ?_⟩
  rcases h.2 with ⟨rfl, h0⟩ | ⟨g, cap, cur, rfl, hb', hh, hc, hm, hs, ht⟩
  · exact .inl ⟨rfl, h0⟩
  · exact .inr ⟨g, cap, cur, rfl, by omega, hh, hc, hm, hs, ht⟩
theorem OwnT.keep {w w1 : World} {base : Nat} {v : Value} {l : List ByteArray} (h : OwnT w base v l) (hb : Below w.heap.size w w1) : OwnT w1 base v l := owns_keepBut h fun k hk _ => hb.block k hk
theorem OwnT.keepBut {w w1 : World} {base : Nat} {v : Value} {l : List ByteArray} (h : OwnT w base v l) (hb : ∀ k, k < w.heap.size → v.ownBlock = some k → w1.heap[k]? = w.heap[k]?) : OwnT w1 base v l := owns_keepBut h hb
theorem OwnT.low {w : World} {base base' : Nat} {v : Value} {l : List ByteArray} (h : OwnT w base v l) (hb : base' ≤ base) : OwnT w base' v l := owns_low h hb
theorem OwnT.lt {w : World} {base : Nat} {v : Value} {l : List ByteArray} (h : OwnT w base v l) {b : Nat} (hb : v.ownBlock = some b) : base ≤ b ∧ b < w.heap.size := World.ownsRow.lt h b hb
theorem hi9 : Try.prog.info? 9 = some Try.t9 := rfl
theorem hz9 : Try.t9.zero = some (.string ByteArray.empty) := rfl
theorem hs9 : Try.t9.size = 1 := rfl
theorem hb9 : Try.t9.bytes = 16 := rfl
/-- What is left of a row: a slice of texts somewhere in a row; behind its end there is no room, or it is the whole row. -/
def Tl (w : World) (base : Nat) (v : Value) (l : List ByteArray) : Prop :=
  (v = .slice none 0 0 ∧ l = []) ∨
  ∃ g off cap cur, v = .slice (some ⟨g, off, none⟩) l.length cap ∧ base ≤ g ∧ w.heap[g]? = some (.cells cur 9 (0, 0)) ∧ off + l.length ≤ cur.size ∧ (cur.toList.drop off).take l.length = SC l ∧ l.length ≤ cap ∧ cap ≤ maxLen ∧ (cap = l.length ∨ (off = 0 ∧ cur.size = cap))
theorem Tl.keepBut {w w1 : World} {base : Nat} {v : Value} {l : List ByteArray} (h : Tl w base v l) (hb : ∀ k, k < w.heap.size → v.ownBlock = some k → w1.heap[k]? = w.heap[k]?) : Tl w1 base v l := by
  rcases h with h | ⟨g, off, cap, cur, rfl, hbg, hh, rest⟩
  · exact .inl h
  · exact .inr ⟨g, off, cap, cur, rfl, hbg, (hb g (Array.getElem?_eq_some_iff.1 hh).1 rfl).trans hh, rest⟩
theorem Tl.keep {w w1 : World} {base : Nat} {v : Value} {l : List ByteArray} (h : Tl w base v l) (hb : Below w.heap.size w w1) : Tl w1 base v l := h.keepBut fun k hk _ => hb.block k hk
theorem Tl.low {w : World} {base base' : Nat} {v : Value} {l : List ByteArray} (h : Tl w base v l) (hb : base' ≤ base) : Tl w base' v l := by
  rcases h with h | ⟨g, off, cap, cur, rfl, hbg, rest⟩
  · exact .inl h
  · exact .inr ⟨g, off, cap, cur, rfl, Nat.le_trans hb hbg, rest⟩
theorem Tl.lt {w : World} {base : Nat} {v : Value} {l : List ByteArray} (h : Tl w base v l) : ∀ k, v.ownBlock = some k → base ≤ k ∧ k < w.heap.size := by
  intro k hk
  rcases h with ⟨rfl, _⟩ | ⟨g, off, cap, cur, rfl, hbg, hh, rest⟩
  · simp [Value.ownBlock] at hk
  · simp only [Value.ownBlock, Option.some.injEq] at hk
    subst hk
    exact ⟨hbg, (Array.getElem?_eq_some_iff.1 hh).1⟩
theorem Tl.at {w : World} {base : Nat} {v : Value} {l : List ByteArray} (h : Tl w base v l) :
    ∃ a cap, v = .slice a l.length cap ∧ AtT w a l ∧ (∀ k, blk a k → v.ownBlock = some k) ∧ l.length ≤ cap ∧ cap ≤ maxLen := by
  rcases h with ⟨rfl, rfl⟩ | ⟨g, off, cap, cur, rfl, hbg, hh, hsz, ht, hc, hm, _⟩
  · exact ⟨none, 0, rfl, AtT.nil _ _, (fun k hk => by obtain ⟨_, _, h⟩ := hk; cases h), by simp, by decide⟩
  · refine ⟨_, cap, rfl, fun j hj => ⟨g, off, rfl, ?_⟩, (fun k hk => by obtain ⟨_, _, h⟩ := hk; simp at h; obtain ⟨rfl, _⟩ := h; rfl), hc, hm⟩
    rw [cell_of_row w g (off + j) _ _ _ hh]
    have := SC_get l j hj
    rw [← ht, List.getElem?_take, if_pos hj, List.getElem?_drop] at this
    simpa using this
theorem OwnT.tl {w : World} {base : Nat} {v : Value} {l : List ByteArray} (h : OwnT w base v l) : Tl w base v l := by
  rcases h.2 with ⟨rfl, h0⟩ | ⟨g, cap, cur, rfl, hb', hh, hc, hm, hs, ht⟩
  · exact .inl ⟨rfl, List.length_eq_zero_iff.1 h0⟩
  · refine .inr ⟨g, 0, cap, cur, rfl, hb', hh, by omega, ?_, hc, hm, .inr ⟨rfl, by omega⟩⟩
    rw [List.drop_zero, ← ht, Nat.mul_one]
/-- A text appended to what is left of a row. -/
theorem Tl.app {w : World} {base : Nat} {v : Value} {l : List ByteArray} (h : Tl w base v l) (s : ByteArray) (a : Addr) (c : Nat) (hs : ∀ j u, [Value.string s][j]? = some u → w.cell? (a.add j) = some u) (hl : l.length ≤ 1000) (hb : base ≤ w.heap.size) (ty : TypeId) :
    ∃ g cap w', (Builtin.append_ #[27, 27] ty #[v, .slice (some a) 1 c]).run Try.prog w = .ok (.slice (some ⟨g, 0, none⟩) (l.length + 1) cap) w' ∧ OwnT w' base (.slice (some ⟨g, 0, none⟩) (l.length + 1) cap) (l ++ [s]) ∧ Rw w v w' (.slice (some ⟨g, 0, none⟩) (l.length + 1) cap) := by
  have own : OwnT w base v l → ∃ g cap w', (Builtin.append_ #[27, 27] ty #[v, .slice (some a) 1 c]).run Try.prog w = .ok (.slice (some ⟨g, 0, none⟩) (l.length + 1) cap) w' ∧ OwnT w' base (.slice (some ⟨g, 0, none⟩) (l.length + 1) cap) (l ++ [s]) ∧ Rw w v w' (.slice (some ⟨g, 0, none⟩) (l.length + 1) cap) := by
    intro ho
    obtain ⟨g, cap, w', hr, h2, h3, h4, h5⟩ := run_append_lies (P := Try.prog) w 27 ty base 9 Try.t9 _ 1 16 Try.underlying27 hi9 hz9 hs9 hb9 rfl (by decide) v l.length (SC l) ho a 1 c [.string s] rfl hs (by simp; rfl) (by decide) (by unfold maxLen; omega) (by omega) hb _ rfl
    refine ⟨g, cap, w', hr, ?_, rw_lies h3 h4 rfl⟩
    unfold OwnT
    rw [SC_app, List.length_append]
    exact h2
  rcases h with ⟨rfl, rfl⟩ | ⟨g, off, cap, cur, rfl, hbg, hh, hsz, ht, hc, hm, hcap | ⟨rfl, hcur⟩⟩
  · exact own (OwnT.nil _ _)
  · subst hcap
    have hold : ∀ j u, (SC l)[j]? = some u → w.cell? ((⟨g, off, none⟩ : Addr).add j) = some u := by
      refine atT_cells fun j hj => ⟨g, off, rfl, ?_⟩
      rw [cell_of_row w g (off + j) _ _ _ hh]
      have := SC_get l j hj
      rw [← ht, List.getElem?_take, if_pos hj, List.getElem?_drop] at this
      simpa using this
    have hr := run_append_grow (P := Try.prog) w 27 ty 9 Try.t9 _ Try.underlying27 hi9 hz9 ⟨g, off, none⟩ l.length l.length (SC l) (by rw [SC_len, hs9, Nat.mul_one]) hold a 1 c [.string s] rfl hs (by omega) (by omega) (growslice_fits (by omega) (by rw [hb9]; omega))
    refine ⟨_, _, _, hr, ?_, ⟨⟨rfl, rfl, rfl, by simp, fun k hk _ => Below.heap_alloc w.drew _ k hk⟩, fun k hk => ?_⟩⟩
    · refine ⟨by rw [SC_len]; simp, .inr ⟨w.heap.size, _, _, (by rw [List.length_append]; rfl), hb, heap_alloc_new w.drew _, ?_, ?_, ?_, ?_⟩⟩
      · rw [List.length_append]; exact grownCap_ge _ _ _ _
      · exact grownCap_le_maxLen _ _ _ _ (by unfold maxLen; omega)
      · have hge := grownCap_ge w (l.length + 1) l.length 9
        simp only [Array.size_append, List.size_toArray, size_zeroCells, SC_len]
        rw [show (Value.string ByteArray.empty).cells.size = 1 from rfl]
        simp only [List.length_cons, List.length_nil]
        omega
      · rw [SC_app]
        simp only [Array.toList_append]
        rw [show (SC l) ++ SC [s] = (SC l).toArray.toList ++ ([Value.string s] : List Value).toArray.toList by simp [SC]]
        refine List.take_left' ?_
        simp [SC_len]
    · simp only [Value.ownBlock, Option.some.injEq] at hk
      exact .inr (by omega)
  · refine own ⟨by rw [SC_len]; omega, .inr ⟨g, cap, cur, rfl, hbg, hh, hc, hm, by omega, ?_⟩⟩
    rw [List.drop_zero] at ht
    rw [Nat.mul_one]
    exact ht
end Go.Proofs.Ytlknknacjpnmeaa
