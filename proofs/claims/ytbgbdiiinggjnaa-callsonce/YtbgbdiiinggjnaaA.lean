/-
  Rows of timers in memory, read, and of one's own.
-/
import Derived.Test.YtbgbdiiinggjnaaRows
import Derived.Test.YtbgbdiiinggjnaaM
import Derived.WalkKit
import Derived.WalkSpells
import Derived.WalkLawsBesides
import Derived.Deep.QuietTactic
import Derived.BigQuiet
import Derived.BigRegion
import Derived.RegionTactic
import Derived.Deep.RegionWith
import Derived.ProofKit
import Derived.Below
import Derived.Deep.WholeRow
import Derived.Laws.MakeOwn
import Derived.Laws.AppendOwn
import Derived.Laws.CopyRow
import Derived.Laws.CopyOwn
import Derived.Lib.Hide
import Derived.Lib.Walk
import Derived.Deep.RegionHeld3
import Derived.Deep.AppendLies
import Derived.Lib.SliceRun
namespace Go.Proofs.Ytbgbdiiinggjnaa
open Go.RowKit
set_option linter.unusedVariables false
open M (E)

theorem Hid_of {p : Prop} (h : p) : Hid p := h
theorem below_drewN {B : Nat} {a w : World} (h : Below B a w) (n : Nat) : Below B a (w.drewN n) := ⟨h.os, h.tape, h.output, h.size, h.block⟩
theorem bel1 (w : World) (o : Obj) : Below w.heap.size w (w.alloc o) := (Below.refl w.heap.size w).alloc (Nat.le_refl _) o
theorem bel_up {B : Nat} {w w1 w2 : World} (h : Below B w w1) (h2 : Below w1.heap.size w1 w2) (hB : B ≤ w.heap.size) : Below B w w2 := h.trans (h2.mono (Nat.le_trans hB h.size))
theorem row1 {w : World} {k : Nat} {v0 : Value} {t : TypeId} (h : w.heap[k]? = some (.cells #[v0] t (0, 0))) : w.cell? ⟨k, 0, none⟩ = some v0 ∧ ∀ j, w.frozen? ⟨k, j, none⟩ = false :=
  ⟨by rw [cell_of_row w k 0 _ _ _ h]; rfl, fun j => frozen_of_row w k j _ _ h⟩
theorem row2 {w : World} {k : Nat} {v0 v1 : Value} {t : TypeId} (h : w.heap[k]? = some (.cells #[v0, v1] t (0, 0))) :
    (w.cell? ⟨k, 0, none⟩ = some v0 ∧ w.cell? ⟨k, 1, none⟩ = some v1) ∧ ∀ j, w.frozen? ⟨k, j, none⟩ = false :=
  ⟨⟨by rw [cell_of_row w k 0 _ _ _ h]; rfl, by rw [cell_of_row w k 1 _ _ _ h]; rfl⟩, fun j => frozen_of_row w k j _ _ h⟩
theorem cell_one (w : World) (B : Nat) (v : Value) (t : TypeId) (h : w.heap[B]? = some (.cells #[v] t (0, 0))) : ∀ (j : Nat) (x : Value), [v][j]? = some x → w.cell? ((⟨B, 0, none⟩ : Addr).add j) = some x := by
  intro j x hx
  have hadd : (⟨B, 0, none⟩ : Addr).add j = ⟨B, j, none⟩ := by unfold Addr.add; split <;> simp_all
  rw [hadd, cell_of_row _ _ j _ _ _ h]
  simpa using hx
theorem cell_two (w : World) (B : Nat) (v0 v1 : Value) (t : TypeId) (h : w.heap[B]? = some (.cells #[v0, v1] t (0, 0))) : ∀ (j : Nat) (x : Value), [v0, v1][j]? = some x → w.cell? ((⟨B, 0, none⟩ : Addr).add j) = some x := by
  intro j x hx
  have hadd : (⟨B, 0, none⟩ : Addr).add j = ⟨B, j, none⟩ := by unfold Addr.add; split <;> simp_all
  rw [hadd, cell_of_row _ _ j _ _ _ h]
  simpa using hx
/-- A timer as a value. -/
def EV (e : E) : Value := .agg #[.int .i64 e.i, .int .i64 e.t]

/-- The cells of timers. -/
def EC : List E → List Value
  | [] => []
  | p :: r => .int .i64 p.i :: .int .i64 p.t :: EC r
theorem EC_app : ∀ l q, EC (l ++ q) = EC l ++ EC q
  | [], q => rfl
  | p :: r, q => by rw [List.cons_append, EC, EC_app r q]; rfl
theorem EC_len : ∀ l, (EC l).length = l.length * 2
  | [] => rfl
  | p :: r => by rw [EC]; simp [EC_len r]; omega
theorem EC_get : ∀ (l : List E) (j : Nat) (h : j < l.length), (EC l)[j * 2]? = some (.int .i64 l[j].i) ∧ (EC l)[j * 2 + 1]? = some (.int .i64 l[j].t)
  | [], j, h => by simp at h
  | p :: r, 0, h => by simp [EC]
  | p :: r, j + 1, h => by
    have := EC_get r j (by simpa using h)
    rw [EC, show (j + 1) * 2 = j * 2 + 1 + 1 by omega]
    simpa using this
theorem EC_take : ∀ (l : List E) (k : Nat), (EC l).take (k * 2) = EC (l.take k)
  | l, 0 => by simp [EC]
  | [], k + 1 => by simp [EC]
  | p :: r, k + 1 => by
    rw [EC, show (k + 1) * 2 = k * 2 + 1 + 1 by omega]
    simp only [List.take_succ_cons, EC, EC_take r k]
theorem EC_drop : ∀ (l : List E) (k : Nat), (EC l).drop (k * 2) = EC (l.drop k)
  | l, 0 => by simp
  | [], k + 1 => by simp [EC]
  | p :: r, k + 1 => by
    rw [EC, show (k + 1) * 2 = k * 2 + 1 + 1 by omega]
    simp only [List.drop_succ_cons, EC_drop r k]
theorem EC_one : ∀ (l : List E), ∀ v ∈ EC l, v.oneCell' = true
  | [], v, h => by simp [EC] at h
  | p :: r, v, h => by
    simp only [EC, List.mem_cons] at h
    rcases h with rfl | rfl | h
    · rfl
    · rfl
    · exact EC_one r v h
theorem EC_tl (P : List E) (i : Nat) (hi : i ≤ P.length) : (EC (P.take i)).length = i * 2 := by rw [EC_len, List.length_take, Nat.min_eq_left hi]
/-- The blocks that a slice lies in. -/
def blk (a : Option Addr) (k : Nat) : Prop := ∃ off s, a = some ⟨k, off, s⟩
/-- A slice of timers in memory. -/
def AtE (w : World) (a : Option Addr) (l : List E) : Prop :=
  ∀ j (h : j < l.length), ∃ b off, a = some ⟨b, off, none⟩ ∧ w.cell? ⟨b, off + j * 2, none⟩ = some (.int .i64 l[j].i) ∧ w.cell? ⟨b, off + j * 2 + 1, none⟩ = some (.int .i64 l[j].t)
theorem AtE.keepBut {w w' : World} {a : Option Addr} {l : List E} (h : AtE w a l) (hb : ∀ k, k < w.heap.size → blk a k → w'.heap[k]? = w.heap[k]?) : AtE w' a l := by
  intro j hj
  obtain ⟨b, off, rfl, h0, h1⟩ := h j hj
  have hlt := World.block_lt_of_cell? w _ h0
  have hk := hb b hlt ⟨off, none, rfl⟩
  exact ⟨b, off, rfl, (World.cell?_of_block (w := w) (a := ⟨b, off + j * 2, none⟩) hk).trans h0, (World.cell?_of_block (w := w) (a := ⟨b, off + j * 2 + 1, none⟩) hk).trans h1⟩
theorem AtE.keep {w w' : World} {a : Option Addr} {l : List E} (h : AtE w a l) (hb : Below w.heap.size w w') : AtE w' a l := h.keepBut fun k hk _ => hb.block k hk

/-- A row of timers of one's own. -/
def Own (w : World) (base : Nat) (v : Value) (l : List E) : Prop := w.ownsRow base 93 2 v l.length (EC l)
theorem Own.nil (w : World) (base : Nat) : Own w base (.slice none 0 0) [] := World.ownsRow_nil _ _ _ _
theorem Own.at {w : World} {base : Nat} {v : Value} {l : List E} (h : Own w base v l) :
    ∃ a cap, v = .slice a l.length cap ∧ AtE w a l ∧ (∀ k, blk a k → base ≤ k ∧ v.ownBlock = some k ∧ k < w.heap.size) ∧ l.length ≤ cap ∧ (a = none → cap = 0) := by
  rcases h.2 with ⟨rfl, h0⟩ | ⟨g, cap, cur, rfl, hb', hh, hc, hm, hs, ht⟩
  · have e : l = [] := List.length_eq_zero_iff.1 h0
    subst e
    exact ⟨none, 0, rfl, (fun j h => by simp at h), (fun k hk => by obtain ⟨_, _, h⟩ := hk; cases h), by simp, fun _ => rfl⟩
  · refine ⟨some ⟨g, 0, none⟩, cap, rfl, fun j hj => ⟨g, 0, rfl, ?_⟩, (fun k hk => by obtain ⟨_, _, h⟩ := hk; simp at h; obtain ⟨rfl, _⟩ := h; exact ⟨hb', rfl, (Array.getElem?_eq_some_iff.1 hh).1⟩), hc, fun h => by cases h⟩
    have hr := EC_get l j hj
    have key : ∀ (i : Nat) (u : Value), (EC l)[i]? = some u → w.cell? ⟨g, 0 + i, none⟩ = some u := fun i u hu => by
      have := World.ownsRow.cells h (g := g) rfl i u hu
      rwa [show ((⟨g, 0, none⟩ : Addr).add i) = ⟨g, 0 + i, none⟩ by unfold Addr.add; split <;> simp_all] at this
    exact ⟨key _ _ hr.1, key _ _ hr.2⟩
/-- What has become of a row: nothing else has changed; it lies where it lay, or in new memory. -/
structure Rw (w : World) (v : Value) (w' : World) (v' : Value) : Prop where
  g : w.grownBy w' v.ownBlock
  n : ∀ k, v'.ownBlock = some k → v.ownBlock = some k ∨ w.heap.size ≤ k
theorem Rw.refl (w : World) (v : Value) : Rw w v w v := ⟨⟨rfl, rfl, rfl, Nat.le_refl _, fun _ _ _ => rfl⟩, fun k h => .inl h⟩
theorem Rw.trans {w w1 w2 : World} {v v1 v2 : Value} (h : Rw w v w1 v1) (k : Rw w1 v1 w2 v2) : Rw w v w2 v2 := by
  refine ⟨⟨k.g.os.trans h.g.os, k.g.tape.trans h.g.tape, k.g.output.trans h.g.output, Nat.le_trans h.g.size k.g.size, fun b hb hne => ?_⟩, fun b hb => ?_⟩
  · rw [k.g.block b (Nat.lt_of_lt_of_le hb h.g.size) (fun e => by
      rcases h.n b e.symm with h' | h'
      · exact hne h'.symm
      · omega)]
    exact h.g.block b hb hne
  · rcases k.n b hb with h' | h'
    · exact h.n b h'
    · exact .inr (Nat.le_trans h.g.size h')
theorem Rw.ofBelow {w w1 : World} (v : Value) (h : Below w.heap.size w w1) : Rw w v w1 v := ⟨⟨h.os, h.tape, h.output, h.size, fun k hk _ => h.block k hk⟩, fun k h => .inl h⟩
theorem Rw.drewN {w w1 : World} {v v1 : Value} (h : Rw w v w1 v1) (n : Nat) : Rw w v (w1.drewN n) v1 := ⟨⟨h.g.os, h.g.tape, h.g.output, h.g.size, h.g.block⟩, h.n⟩
theorem Rw.below {B : Nat} {w w1 : World} {v v1 : Value} (h : Rw w v w1 v1) (hv : ∀ k, v.ownBlock = some k → B ≤ k) (hB : B ≤ w.heap.size) : Below B w w1 :=
  ⟨h.g.os, h.g.tape, h.g.output, h.g.size, fun k hk => h.g.block k (by omega) (fun e => by have := hv k e.symm; omega)⟩
theorem rw_lies {w w3 : World} {v : Value} {g n cp H : Nat} (hgrow : w.grownBy w3 v.ownBlock) (hat : v.ownBlock = some g ∨ g = H) (hH : w.heap.size = H) : Rw w v w3 (.slice (some ⟨g, 0, none⟩) n cp) := by
  refine ⟨hgrow, fun k hk => ?_⟩
  simp only [Value.ownBlock, Option.some.injEq] at hk
  subst hk
  rcases hat with h | h
  · exact .inl h
  · exact .inr (by omega)
theorem owns_keepBut {w w1 : World} {base : Nat} {t : TypeId} {s : Nat} {v : Value} {n : Nat} {cs : List Value} (h : w.ownsRow base t s v n cs) (hb : ∀ k, k < w.heap.size → v.ownBlock = some k → w1.heap[k]? = w.heap[k]?) : w1.ownsRow base t s v n cs := by
  refine ⟨h.1, ?_⟩
  rcases h.2 with ⟨rfl, h0⟩ | ⟨g, cap, cur, rfl, hb', hh, hc, hm, hs, ht⟩
  · exact .inl ⟨rfl, h0⟩
  · exact .inr ⟨g, cap, cur, rfl, hb', (hb g (Array.getElem?_eq_some_iff.1 hh).1 rfl).trans hh, hc, hm, hs, ht⟩
theorem owns_low {w : World} {base base' : Nat} {t : TypeId} {s : Nat} {v : Value} {n : Nat} {cs : List Value} (h : w.ownsRow base t s v n cs) (hb : base' ≤ base) : w.ownsRow base' t s v n cs := by
  refine ⟨h.1, ?_⟩
  rcases h.2 with ⟨rfl, h0⟩ | ⟨g, cap, cur, rfl, hb', hh, hc, hm, hs, ht⟩
  · exact .inl ⟨rfl, h0⟩
  · exact .inr ⟨g, cap, cur, rfl, by omega, hh, hc, hm, hs, ht⟩
theorem Own.keep {w w1 : World} {base : Nat} {v : Value} {l : List E} (h : Own w base v l) (hb : Below w.heap.size w w1) : Own w1 base v l := owns_keepBut h fun k hk _ => hb.block k hk
theorem Own.keepBut {w w1 : World} {base : Nat} {v : Value} {l : List E} (h : Own w base v l) (hb : ∀ k, k < w.heap.size → v.ownBlock = some k → w1.heap[k]? = w.heap[k]?) : Own w1 base v l := owns_keepBut h hb
theorem Own.low {w : World} {base base' : Nat} {v : Value} {l : List E} (h : Own w base v l) (hb : base' ≤ base) : Own w base' v l := owns_low h hb
/-- A row of ints of one's own. -/
def OwnI (w : World) (base : Nat) (v : Value) (l : List Int) : Prop := w.ownsRow base 3 1 v l.length (l.map (Value.int .i64))
theorem OwnI.nil (w : World) (base : Nat) : OwnI w base (.slice none 0 0) [] := World.ownsRow_nil _ _ _ _
theorem OwnI.keep {w w1 : World} {base : Nat} {v : Value} {l : List Int} (h : OwnI w base v l) (hb : Below w.heap.size w w1) : OwnI w1 base v l := owns_keepBut h fun k hk _ => hb.block k hk
theorem OwnI.keepBut {w w1 : World} {base : Nat} {v : Value} {l : List Int} (h : OwnI w base v l) (hb : ∀ k, k < w.heap.size → v.ownBlock = some k → w1.heap[k]? = w.heap[k]?) : OwnI w1 base v l := owns_keepBut h hb
theorem OwnI.low {w : World} {base base' : Nat} {v : Value} {l : List Int} (h : OwnI w base v l) (hb : base' ≤ base) : OwnI w base' v l := owns_low h hb
/-- A slice of ints in memory. -/
def AtI (w : World) (a : Option Addr) (l : List Int) : Prop := ∀ j (h : j < l.length), ∃ b off, a = some ⟨b, off, none⟩ ∧ w.cell? ⟨b, off + j, none⟩ = some (.int .i64 l[j])
theorem AtI.keepBut {w w' : World} {a : Option Addr} {l : List Int} (h : AtI w a l) (hb : ∀ k, k < w.heap.size → blk a k → w'.heap[k]? = w.heap[k]?) : AtI w' a l := by
  intro j hj
  obtain ⟨b, off, rfl, h0⟩ := h j hj
  have hk := hb b (World.block_lt_of_cell? w _ h0) ⟨off, none, rfl⟩
  exact ⟨b, off, rfl, (World.cell?_of_block (w := w) (a := ⟨b, off + j, none⟩) hk).trans h0⟩
theorem AtI.keep {w w' : World} {a : Option Addr} {l : List Int} (h : AtI w a l) (hb : Below w.heap.size w w') : AtI w' a l := h.keepBut fun k hk _ => hb.block k hk
theorem OwnI.at {w : World} {base : Nat} {v : Value} {l : List Int} (h : OwnI w base v l) : ∃ a cap, v = .slice a l.length cap ∧ AtI w a l ∧ (∀ k, blk a k → base ≤ k ∧ v.ownBlock = some k ∧ k < w.heap.size) ∧ l.length ≤ cap := by
  rcases h.2 with ⟨rfl, h0⟩ | ⟨g, cap, cur, rfl, hb', hh, hc, hm, hs, ht⟩
  · have e : l = [] := List.length_eq_zero_iff.1 h0
    subst e
    exact ⟨none, 0, rfl, (fun j h => by simp at h), (fun k hk => by obtain ⟨_, _, h⟩ := hk; cases h), by simp⟩
  · refine ⟨some ⟨g, 0, none⟩, cap, rfl, fun j hj => ⟨g, 0, rfl, ?_⟩, (fun k hk => by obtain ⟨_, _, h⟩ := hk; simp at h; obtain ⟨rfl, _⟩ := h; exact ⟨hb', rfl, (Array.getElem?_eq_some_iff.1 hh).1⟩), hc⟩
    have := World.ownsRow.cells h (g := g) rfl j (.int .i64 l[j]) (by simp [hj])
    rwa [show ((⟨g, 0, none⟩ : Addr).add j) = ⟨g, 0 + j, none⟩ by unfold Addr.add; split <;> simp_all] at this
theorem hi42 : Try.prog.info? 93 = some Try.t93 := by kernel_rfl
theorem hz42 : Try.t93.zero = some (.agg #[.int .i64 0, .int .i64 0]) := rfl
theorem hs42 : Try.t93.size = 2 := rfl
theorem hb42 : Try.t93.bytes = 16 := rfl
theorem hi3 : Try.prog.info? 3 = some Try.t3 := by kernel_rfl
theorem hz3 : Try.t3.zero = some (.int .i64 0) := rfl
theorem hs3 : Try.t3.size = 1 := rfl
theorem hb3 : Try.t3.bytes = 8 := rfl
theorem Try.size93 : (Try.prog.info? 93).map (·.size) = some 2 := by kernel_rfl
end Go.Proofs.Ytbgbdiiinggjnaa
