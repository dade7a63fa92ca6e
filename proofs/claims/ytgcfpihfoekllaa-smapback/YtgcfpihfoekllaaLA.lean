/-
  Rows of structs in memory, of any layout: read, and of one's own; calls, and ints.
-/
import Derived.Test.YtgcfpihfoekllaaJ
import Derived.BigQuiet
import Derived.Deep.CutRange
import Derived.Laws.AppendOwnNone
import Derived.Laws.AppendOwn
import Derived.Laws.CopyRow
import Derived.Laws.CopyOwn
import Derived.Maps.AppendAt
import Derived.Laws.ResultCell
import Derived.Deep.RegionLaw
import Derived.Deep.RegionWith
import Derived.Deep.RegionHeld3
import Derived.Deep.WholeRow
import Derived.Deep.AppendLies
import Derived.Lib.SliceRun
namespace Go.Proofs.Ytgcfpihfoekllaa
open Go.RowKit
set_option linter.unusedVariables false

theorem Hid_of {p : Prop} (h : p) : Hid p := h
theorem bel1 (w : World) (o : Obj) : Below w.heap.size w (w.alloc o) := (Below.refl w.heap.size w).alloc (Nat.le_refl _) o
theorem bel_up {B : Nat} {w w1 w2 : World} (h : Below B w w1) (h2 : Below w1.heap.size w1 w2) (hB : B ≤ w.heap.size) : Below B w w2 := h.trans (h2.mono (Nat.le_trans hB h.size))
theorem row1 {w : World} {k : Nat} {v0 : Value} {t : TypeId} (h : w.heap[k]? = some (.cells #[v0] t (0, 0))) : w.cell? ⟨k, 0, none⟩ = some v0 ∧ ∀ j, w.frozen? ⟨k, j, none⟩ = false :=
  ⟨by rw [cell_of_row w k 0 _ _ _ h]; rfl, fun j => frozen_of_row w k j _ _ h⟩
theorem cell_one (w : World) (B : Nat) (v : Value) (t : TypeId) (h : w.heap[B]? = some (.cells #[v] t (0, 0))) : ∀ (j : Nat) (x : Value), [v][j]? = some x → w.cell? ((⟨B, 0, none⟩ : Addr).add j) = some x := by
  intro j x hx
  have hadd : (⟨B, 0, none⟩ : Addr).add j = ⟨B, j, none⟩ := by unfold Addr.add; split <;> simp_all
  rw [hadd, cell_of_row _ _ j _ _ _ h]
  simpa using hx
/-- What has become of a row: nothing else has changed; it lies where it lay, or in new memory. -/
structure Rw (w : World) (v : Value) (w' : World) (v' : Value) : Prop where
  g : w.grownBy w' v.ownBlock
  n : ∀ k, v'.ownBlock = some k → v.ownBlock = some k ∨ w.heap.size ≤ k
theorem Rw.refl (w : World) (v : Value) : Rw w v w v := ⟨⟨rfl, rfl, rfl, Nat.le_refl _, fun _ _ _ => rfl⟩, fun k h => .inl h⟩
theorem Rw.trans {w w1 w2 : World} {v v1 v2 : Value} (h : Rw w v w1 v1) (k : Rw w1 v1 w2 v2) : Rw w v w2 v2 := by
  refine ⟨⟨k.g.os.trans h.g.os, k.g.tape.trans h.g.tape, k.g.output.trans h.g.output, Nat.le_trans h.g.size k.g.size, fun b hb hne => ?_⟩, fun b hb => ?_⟩
  · rw [k.g.block b (Nat.lt_of_lt_of_le hb h.g.size) (fun e => by
      rcases h.n b e.symm with h' | h'
      · exact hne h'.symm
      · omega)]
    exact h.g.block b hb hne
  · rcases k.n b hb with h' | h'
    · exact h.n b h'
    · exact .inr (Nat.le_trans h.g.size h')
theorem Rw.ofBelow {w w1 : World} (v : Value) (h : Below w.heap.size w w1) : Rw w v w1 v := ⟨⟨h.os, h.tape, h.output, h.size, fun k hk _ => h.block k hk⟩, fun k h => .inl h⟩
theorem Rw.drewN {w w1 : World} {v v1 : Value} (h : Rw w v w1 v1) (n : Nat) : Rw w v (w1.drewN n) v1 := ⟨⟨h.g.os, h.g.tape, h.g.output, h.g.size, h.g.block⟩, h.n⟩
theorem Rw.below {B : Nat} {w w1 : World} {v v1 : Value} (h : Rw w v w1 v1) (hv : ∀ k, v.ownBlock = some k → B ≤ k) (hB : B ≤ w.heap.size) : Below B w w1 :=
  ⟨h.g.os, h.g.tape, h.g.output, h.g.size, fun k hk => h.g.block k (by omega) (fun e => by have := hv k e.symm; omega)⟩
theorem rw_lies {w w3 : World} {v : Value} {g n cp H : Nat} (hgrow : w.grownBy w3 v.ownBlock) (hat : v.ownBlock = some g ∨ g = H) (hH : w.heap.size = H) : Rw w v w3 (.slice (some ⟨g, 0, none⟩) n cp) := by
  refine ⟨hgrow, fun k hk => ?_⟩
  simp only [Value.ownBlock, Option.some.injEq] at hk
  subst hk
  rcases hat with h | h
  · exact .inl h
  · exact .inr (by omega)
theorem owns_keepBut {w w1 : World} {base : Nat} {t : TypeId} {s : Nat} {v : Value} {n : Nat} {cs : List Value} (h : w.ownsRow base t s v n cs) (hb : ∀ k, k < w.heap.size → v.ownBlock = some k → w1.heap[k]? = w.heap[k]?) : w1.ownsRow base t s v n cs := by
  refine ⟨h.1, ?_⟩
  rcases h.2 with ⟨rfl, h0⟩ | ⟨g, cap, cur, rfl, hb', hh, hc, hm, hs, ht⟩
  · exact .inl ⟨rfl, h0⟩
  · exact .inr ⟨g, cap, cur, rfl, hb', (hb g (Array.getElem?_eq_some_iff.1 hh).1 rfl).trans hh, hc, hm, hs, ht⟩
theorem owns_low {w : World} {base base' : Nat} {t : TypeId} {s : Nat} {v : Value} {n : Nat} {cs : List Value} (h : w.ownsRow base t s v n cs) (hb : base' ≤ base) : w.ownsRow base' t s v n cs := by
  refine ⟨h.1, ?_⟩
  rcases h.2 with ⟨rfl, h0⟩ | ⟨g, cap, cur, rfl, hb', hh, hc, hm, hs, ht⟩
  · exact .inl ⟨rfl, h0⟩
  · exact .inr ⟨g, cap, cur, rfl, by omega, hh, hc, hm, hs, ht⟩
/-- How a struct lies in cells. -/
structure Ly (α : Type) where
  n : Nat
  cs : α → List Value
  len : ∀ x, (cs x).length = n
  one : ∀ x, ∀ v ∈ cs x, v.oneCell' = true
  pos : 0 < n
/-- The cells of a row. -/
def Ly.cells {α : Type} (Y : Ly α) : List α → List Value
  | [] => []
  | x :: r => Y.cs x ++ Ly.cells Y r
section
variable {α : Type} (Y : Ly α)
theorem Ly.app : ∀ l q, Y.cells (l ++ q) = Y.cells l ++ Y.cells q
  | [], q => rfl
  | p :: r, q => by rw [List.cons_append, Ly.cells, Ly.app r q, Ly.cells, List.append_assoc]
theorem Ly.clen : ∀ l, (Y.cells l).length = l.length * Y.n
  | [] => by simp [Ly.cells]
  | p :: r => by rw [Ly.cells, List.length_append, Ly.clen r, Y.len, List.length_cons, Nat.add_mul]; omega
theorem Ly.get : ∀ (l : List α) (j : Nat) (h : j < l.length) (o : Nat) (ho : o < Y.n), (Y.cells l)[j * Y.n + o]? = some ((Y.cs l[j])[o]'(by rw [Y.len]; exact ho))
  | [], j, h, o, ho => by simp at h
  | p :: r, 0, h, o, ho => by
    rw [Ly.cells, Nat.zero_mul, Nat.zero_add, List.getElem?_append_left (by rw [Y.len]; exact ho), List.getElem?_eq_getElem (by rw [Y.len]; exact ho)]
    rfl
  | p :: r, j + 1, h, o, ho => by
    have := Ly.get r j (by simpa using h) o ho
    have e : (j + 1) * Y.n + o - (Y.cs p).length = j * Y.n + o := by rw [Y.len, Nat.add_mul]; omega
    rw [Ly.cells, List.getElem?_append_right (by rw [Y.len, Nat.add_mul]; omega), e]
    exact this
theorem Ly.take : ∀ (l : List α) (k : Nat), (Y.cells l).take (k * Y.n) = Y.cells (l.take k)
  | l, 0 => by simp [Ly.cells]
  | [], k + 1 => by simp [Ly.cells]
  | p :: r, k + 1 => by
    rw [Ly.cells, List.take_succ_cons, Ly.cells, ← Ly.take r k, List.take_append, Y.len, List.take_of_length_le (by rw [Y.len, Nat.add_mul]; omega), show (k + 1) * Y.n - Y.n = k * Y.n by rw [Nat.add_mul]; omega]
theorem Ly.drop : ∀ (l : List α) (k : Nat), (Y.cells l).drop (k * Y.n) = Y.cells (l.drop k)
  | l, 0 => by simp
  | [], k + 1 => by simp [Ly.cells]
  | p :: r, k + 1 => by
    rw [Ly.cells, List.drop_succ_cons, ← Ly.drop r k, List.drop_append, Y.len, List.drop_of_length_le (by rw [Y.len, Nat.add_mul]; omega), show (k + 1) * Y.n - Y.n = k * Y.n by rw [Nat.add_mul]; omega, List.nil_append]
theorem Ly.ones : ∀ (l : List α), ∀ v ∈ Y.cells l, v.oneCell' = true
  | [], v, h => by simp [Ly.cells] at h
  | p :: r, v, h => by
    rw [Ly.cells, List.mem_append] at h
    rcases h with h | h
    · exact Y.one p v h
    · exact Ly.ones r v h
theorem Ly.set1 : ∀ (l : List α) (i : Nat) (h : i < l.length) (o : Nat) (ho : o < Y.n) (x : α) (u : Value) (hx : Y.cs x = (Y.cs l[i]).set o u), (Y.cells l).set (i * Y.n + o) u = Y.cells (l.set i x)
  | [], i, h, o, ho, x, u, hx => by simp at h
  | e :: r, 0, h, o, ho, x, u, hx => by
    rw [Ly.cells, List.set_cons_zero, Ly.cells, hx, Nat.zero_mul, Nat.zero_add, List.set_append_left _ _ (by rw [Y.len]; exact ho)]
    rfl
  | e :: r, i + 1, h, o, ho, x, u, hx => by
    have := Ly.set1 r i (by simpa using h) o ho x u (by simpa using hx)
    rw [Ly.cells, List.set_cons_succ, Ly.cells, ← this, List.set_append_right _ _ (by rw [Y.len, Nat.add_mul]; omega), show (i + 1) * Y.n + o - (Y.cs e).length = i * Y.n + o by rw [Y.len, Nat.add_mul]; omega]
/-- A slice of them in memory. -/
def AtL (w : World) (a : Option Addr) (l : List α) : Prop :=
  ∀ j (h : j < l.length), ∃ b off, a = some ⟨b, off, none⟩ ∧ ∀ o (ho : o < Y.n), w.cell? ⟨b, off + j * Y.n + o, none⟩ = some ((Y.cs l[j])[o]'(by rw [Y.len]; exact ho))
variable {Y}
theorem AtL.keepBut {w w' : World} {a : Option Addr} {l : List α} (h : AtL Y w a l) (hb : ∀ k, k < w.heap.size → blk a k → w'.heap[k]? = w.heap[k]?) : AtL Y w' a l := by
  intro j hj
  obtain ⟨b, off, rfl, h0⟩ := h j hj
  have hk := hb b (World.block_lt_of_cell? w _ (h0 0 Y.pos)) ⟨off, none, rfl⟩
  exact ⟨b, off, rfl, fun o ho => (World.cell?_of_block (w := w) (a := ⟨b, off + j * Y.n + o, none⟩) hk).trans (h0 o ho)⟩
theorem AtL.keep {w w' : World} {a : Option Addr} {l : List α} (h : AtL Y w a l) (hb : Below w.heap.size w w') : AtL Y w' a l := h.keepBut fun k hk _ => hb.block k hk
theorem AtL.nil (w : World) (a : Option Addr) : AtL Y w a [] := fun j h => by simp at h
theorem add_n (b off j : Nat) : (⟨b, off, none⟩ : Addr).add j = ⟨b, off + j, none⟩ := by unfold Addr.add; split <;> simp_all
theorem AtL.cells {w : World} {b off : Nat} {l : List α} (h : AtL Y w (some ⟨b, off, none⟩) l) : ∀ j u, (Y.cells l)[j]? = some u → w.cell? ((⟨b, off, none⟩ : Addr).add j) = some u := by
  intro j u hu
  have hjl : j < l.length * Y.n := by
    have := (List.getElem?_eq_some_iff.1 hu).1
    rw [Y.clen] at this
    exact this
  have hn := Y.pos
  rw [add_n]
  have hq : j / Y.n < l.length := Nat.div_lt_of_lt_mul (by rw [Nat.mul_comm]; exact hjl)
  have hm : j % Y.n < Y.n := Nat.mod_lt _ hn
  obtain ⟨b', off', e, h0⟩ := h (j / Y.n) hq
  cases e
  have hdm : j / Y.n * Y.n + j % Y.n = j := by rw [Nat.mul_comm]; exact Nat.div_add_mod j Y.n
  have h1 := h0 (j % Y.n) hm
  have h2 := Y.get l (j / Y.n) hq (j % Y.n) hm
  rw [hdm, hu] at h2
  rw [Nat.add_assoc, hdm] at h1
  rw [h1, ← h2]
theorem AtL.take {w : World} {a : Option Addr} {l : List α} (h : AtL Y w a l) (q : Nat) : AtL Y w a (l.take q) := by
  intro j hj
  simp only [List.length_take] at hj
  simp only [List.getElem_take]
  exact h j (by omega)
theorem AtL.drop {w : World} {b off : Nat} {l : List α} (h : AtL Y w (some ⟨b, off, none⟩) l) (q : Nat) : AtL Y w (some ⟨b, off + q * Y.n, none⟩) (l.drop q) := by
  intro j hj
  simp only [List.length_drop] at hj
  simp only [List.getElem_drop]
  obtain ⟨b', off', e, h0⟩ := h (q + j) (by omega)
  cases e
  refine ⟨b, off + q * Y.n, rfl, fun o ho => ?_⟩
  rw [show off + q * Y.n + j * Y.n + o = off + (q + j) * Y.n + o by rw [Nat.add_mul]; omega]
  exact h0 o ho
variable (Y)
/-- A row of one's own. -/
def OwnL (t : TypeId) (w : World) (base : Nat) (v : Value) (l : List α) : Prop := w.ownsRow base t Y.n v l.length (Y.cells l)
/-- A slice that lies somewhere. -/
structure XL (w : World) (a : Option Addr) (cap : Nat) (l : List α) : Prop where
  at' : AtL Y w a l
  le : l.length ≤ cap
  mx : cap ≤ maxLen
  nil : a = none → cap = 0
variable {Y}
section
variable {t : TypeId} {w w1 : World} {base base' : Nat} {v : Value} {l : List α}
theorem OwnL.nil (t : TypeId) (w : World) (base : Nat) : OwnL Y t w base (.slice none 0 0) [] := World.ownsRow_nil _ _ _ _
theorem OwnL.keepBut (h : OwnL Y t w base v l) (hb : ∀ k, k < w.heap.size → v.ownBlock = some k → w1.heap[k]? = w.heap[k]?) : OwnL Y t w1 base v l := owns_keepBut h hb
theorem OwnL.keep (h : OwnL Y t w base v l) (hb : Below w.heap.size w w1) : OwnL Y t w1 base v l := owns_keepBut h fun k hk _ => hb.block k hk
theorem OwnL.low (h : OwnL Y t w base v l) (hb : base' ≤ base) : OwnL Y t w base' v l := owns_low h hb
theorem OwnL.lt (h : OwnL Y t w base v l) {b : Nat} (hb : v.ownBlock = some b) : base ≤ b ∧ b < w.heap.size := World.ownsRow.lt h b hb
theorem XL.keepBut {w w' : World} {a : Option Addr} {cap : Nat} {l : List α} (h : XL Y w a cap l) (hb : ∀ k, k < w.heap.size → blk a k → w'.heap[k]? = w.heap[k]?) : XL Y w' a cap l := ⟨h.at'.keepBut hb, h.le, h.mx, h.nil⟩
theorem XL.keep {w w' : World} {a : Option Addr} {cap : Nat} {l : List α} (h : XL Y w a cap l) (hb : Below w.heap.size w w') : XL Y w' a cap l := ⟨h.at'.keep hb, h.le, h.mx, h.nil⟩
theorem XL.emp (w : World) : XL Y w none 0 [] := ⟨AtL.nil _ _, by simp, by decide, fun _ => rfl⟩
theorem OwnL.at (h : OwnL Y t w base v l) : ∃ a cap, v = .slice a l.length cap ∧ XL Y w a cap l ∧ (∀ k, blk a k → base ≤ k ∧ v.ownBlock = some k ∧ k < w.heap.size) := by
  rcases h.2 with ⟨rfl, h0⟩ | ⟨g, cap, cur, rfl, hb', hh, hc, hm, hs, ht⟩
  · have e : l = [] := List.length_eq_zero_iff.1 h0
    subst e
    exact ⟨_, 0, rfl, XL.emp w, (fun k hk => by obtain ⟨_, _, h⟩ := hk; cases h)⟩
  · refine ⟨some ⟨g, 0, none⟩, cap, rfl, ⟨fun j hj => ⟨g, 0, rfl, fun o ho => ?_⟩, hc, hm, fun h => by cases h⟩, (fun k hk => by obtain ⟨_, _, h⟩ := hk; simp at h; obtain ⟨rfl, _⟩ := h; exact ⟨hb', rfl, (Array.getElem?_eq_some_iff.1 hh).1⟩)⟩
    have := World.ownsRow.cells h (g := g) rfl (j * Y.n + o) _ (Y.get l j hj o ho)
    rw [add_n] at this
    rw [Nat.add_assoc]
    exact this
/-- A cell of a row of one's own, set. -/
theorem OwnL.set1 (h : OwnL Y t w base v l) (i : Nat) (hi : i < l.length) (o : Nat) (ho : o < Y.n) :
    ∃ g cap, v = .slice (some ⟨g, 0, none⟩) l.length cap ∧ base ≤ g ∧ g < w.heap.size ∧ w.cell? ⟨g, i * Y.n + o, none⟩ = some ((Y.cs l[i])[o]'(by rw [Y.len]; exact ho)) ∧ (∀ j, w.frozen? ⟨g, j, none⟩ = false) ∧ ∀ (x : α) (u : Value), Y.cs x = (Y.cs l[i]).set o u → OwnL Y t (w.setCell ⟨g, i * Y.n + o, none⟩ u) base v (l.set i x) := by
  have hlt := fun b hb => h.lt (b := b) hb
  unfold OwnL at h
  rcases h.2 with ⟨rfl, h0⟩ | ⟨g, cap, cur, hv, hb', hh, hc, hm, hs, ht⟩
  · omega
  · have key := World.ownsRow.cells h (g := g) (by rw [hv]; rfl) _ _ (Y.get l i hi o ho)
    rw [add_n, Nat.zero_add] at key
    refine ⟨g, cap, hv, hb', (hlt g (by rw [hv]; rfl)).2, key, fun j => frozen_of_row w g _ _ _ hh, fun x u hx => ⟨by rw [Y.clen], .inr ⟨g, cap, _, by rw [hv]; simp, hb', heap_setCell_same w g _ _ _ _ hh, by simp; omega, hm, by simp; omega, ?_⟩⟩⟩
    rw [Array.toList_setIfInBounds, List.take_set, List.length_set, ht, Y.set1 l i hi o ho x u hx]
end
variable (Y)
/-- The types of such slices. -/
structure Ti (T t : TypeId) : Prop where
  u : Try.prog.underlying T = some (.slice t)
  i : ∃ inf z, Try.prog.info? t = some inf ∧ inf.zero = some z ∧ inf.size = Y.n ∧ inf.bytes ≤ 100 ∧ z.cells.size = Y.n
variable {Y}
/-- Appended to a row of one's own. -/
theorem run_appL {T t : TypeId} (hT : Ti Y T t) (w : World) (ty : TypeId) (base : Nat) (v : Value) (l s : List α) (b off c n : Nat) (hown : OwnL Y t w base v l) (hs : AtL Y w (some ⟨b, off, none⟩) s) (hn : n = s.length) (hb : base ≤ w.heap.size) (hl : l.length + s.length ≤ 1000000) :
    ∃ a' c' w', (Builtin.append_ #[T, T] ty #[v, .slice (some ⟨b, off, none⟩) n c]).run Try.prog w = .ok (.slice a' (l.length + s.length) c') w' ∧ OwnL Y t w' base (.slice a' (l.length + s.length) c') (l ++ s) ∧ Rw w v w' (.slice a' (l.length + s.length) c') := by
  subst hn
  obtain ⟨inf, z, hi, hz, hsz, hby, hzs⟩ := hT.i
  have hbytes : (l.length + s.length) * inf.bytes ≤ 140737488355328 := Nat.le_trans (Nat.mul_le_mul hl hby) (by omega)
  obtain ⟨v', w', hr, h2, h3, _, h5⟩ := run_append_own_at (P := Try.prog) w base T ty t inf z Y.n inf.bytes hT.u hi hz hsz rfl hzs Y.pos v l.length (Y.cells l) hown ⟨b, off, none⟩ s.length c (Y.cells s) (Y.clen s) hs.cells (Y.ones s) (by unfold maxLen; omega) hbytes hb
  have ho : OwnL Y t w' base v' (l ++ s) := by
    unfold OwnL
    rw [Y.app, List.length_append]
    exact h2
  obtain ⟨a', c', rfl, _, _⟩ := ho.at
  rw [List.length_append] at hr ho h5 h2
  refine ⟨a', c', w', hr, ho, h3, fun k hk => ?_⟩
  rcases h5 with h5 | h5
  · exact .inl (by rw [← h5]; exact hk)
  · rw [h5] at hk
    cases hk
    exact .inr (Nat.le_refl _)
theorem append_ty {T : TypeId} (v u : Value) (w : World) (ty ty' : TypeId) : (Builtin.append_ #[T, T] ty #[v, u]).run Try.prog w = (Builtin.append_ #[T, T] ty' #[v, u]).run Try.prog w := rfl
theorem run_appL_ty {T t : TypeId} (hT : Ti Y T t) (w : World) (base : Nat) (v : Value) (l s : List α) (b off c n : Nat) (hown : OwnL Y t w base v l) (hs : AtL Y w (some ⟨b, off, none⟩) s) (hn : n = s.length) (hb : base ≤ w.heap.size) (hl : l.length + s.length ≤ 1000000) :
    ∃ a' c' w', (∀ ty, (Builtin.append_ #[T, T] ty #[v, .slice (some ⟨b, off, none⟩) n c]).run Try.prog w = .ok (.slice a' (l.length + s.length) c') w') ∧ OwnL Y t w' base (.slice a' (l.length + s.length) c') (l ++ s) ∧ Rw w v w' (.slice a' (l.length + s.length) c') := by
  obtain ⟨a', c', w', h1, h2, h3⟩ := run_appL hT w 0 base v l s b off c n hown hs hn hb hl
  exact ⟨a', c', w', fun ty => (append_ty _ _ _ ty 0).trans h1, h2, h3⟩
theorem run_append_nil0 {T t : TypeId} (hT : Ti Y T t) (w : World) (ty : TypeId) (a : Option Addr) (c : Nat) : (Builtin.append_ #[T, T] ty #[.slice none 0 0, .slice a 0 c]).run Try.prog w = .ok (.slice none 0 0) w := by
  obtain ⟨inf, z, hi, hz, hsz, hby, hzs⟩ := hT.i
  cases a with
  | none => simp [Builtin.append_, run_underlying hT.u, sizeOf, typeInfo, hi, Builtin.lenOf, Builtin.firstCells]
  | some ad =>
    have hl := run_loadCells_list (P := Try.prog) w ad [] (by simp)
    simp at hl
    simp [Builtin.append_, run_underlying hT.u, sizeOf, typeInfo, hi, Builtin.lenOf, Builtin.firstCells, hl]
/-- A whole row, copied into new memory. -/
theorem run_copyL {T t : TypeId} (hT : Ti Y T t) (w : World) (ty : TypeId) (a : Option Addr) (c : Nat) (s : List α) (hs : XL Y w a c s) (hl : s.length ≤ 1000000) :
    ∃ a' c' w', (Builtin.append_ #[T, T] ty #[.slice none 0 0, .slice a s.length c]).run Try.prog w = .ok (.slice a' s.length c') w' ∧ OwnL Y t w' w.heap.size (.slice a' s.length c') s ∧ Below w.heap.size w w' := by
  cases s with
  | nil => exact ⟨none, 0, w, run_append_nil0 hT w ty a c, OwnL.nil _ _ _, Below.refl _ _⟩
  | cons e r =>
    obtain ⟨b, off, rfl, _⟩ := hs.at' 0 (by simp)
    obtain ⟨a', c', w', h1, h2, h3⟩ := run_appL hT w ty w.heap.size (.slice none 0 0) [] (e :: r) b off c _ (OwnL.nil _ _ _) hs.at' rfl (Nat.le_refl _) (by simp at hl ⊢; omega)
    simp only [List.length_nil, Nat.zero_add, List.nil_append] at h1 h2 h3
    exact ⟨a', c', w', h1, h2, h3.below (fun k hk => by simp [Value.ownBlock] at hk) (Nat.le_refl _)⟩
/-- One, laid for an append. -/
theorem atL_one {w : World} {k : Nat} {t : TypeId} {x : α} (h : w.heap[k]? = some (.cells (Y.cs x).toArray t (0, 0))) : AtL Y w (some ⟨k, 0, none⟩) [x] := by
  intro j hj
  have : j = 0 := by simpa using hj
  subst this
  refine ⟨k, 0, rfl, fun o ho => ?_⟩
  rw [cell_of_row w k _ _ _ _ h]
  simp [Y.len, ho]
end
/-- An append whose run is known, at a step of a region that draws its order. -/
theorem step_append_known {P : Program} {w : World} {ops : Array Oper} {o : Oper} {a : Act} {C : Act → World → Prop} {Q : Exit → Act → World → Prop} {E : Prop} (hgd : o.guard = none) (s x : Operand) (t : TypeId)
    (ho : o.op = .call { callee := .builtin .append, args := #[s, x], argTypes := #[t, t] }) (v sv : Value) (hs : a.eval s = v) (hx : a.eval x = sv) (v' : Value) (w' : World)
    (hr : (Builtin.append_ #[t, t] o.type #[v, sv]).run P w = .ok v' w') (h : C (a.put o.dst v') w') : if Region.wanted o (yielded ops a.tmps) = true then Oper.wp P o a w C Q else E := by
  have hw : Region.wanted o (yielded ops a.tmps) = true := by simp [Region.wanted, hgd]
  rw [if_pos hw]
  unfold Oper.wp execOp
  simp only [ho, resolve, invoke, builtin, Sem.run_bind, Sem.run_pure, Result.andThen_ok, List.map_toArray, List.map_cons, List.map_nil, hs, hx, hr]
  exact h
/-- An append whose run is known, in a plain region. -/
theorem wpList_append_known {P : Program} {w : World} {ops : Array Oper} {rest : List Oper} {o : Oper} {a : Act} {Q : Exit → Act → World → Prop} (hgd : o.guard = none) (s x : Operand) (t : TypeId)
    (ho : o.op = .call { callee := .builtin .append, args := #[s, x], argTypes := #[t, t] }) (v sv : Value) (hs : a.eval s = v) (hx : a.eval x = sv) (v' : Value) (w' : World)
    (hr : (Builtin.append_ #[t, t] o.type #[v, sv]).run P w = .ok v' w') (h : wpList P ops Q rest (a.put o.dst v') w') : wpList P ops Q (o :: rest) a w := by
  refine wpList_plain hgd fun K' hK' => ?_
  unfold Oper.wp execOp
  simp only [ho, resolve, invoke, builtin, Sem.run_bind, Sem.run_pure, Result.andThen_ok, List.map_toArray, List.map_cons, List.map_nil, hs, hx, hr]
  exact hK' _ _ h
/-- Ints. -/
def il : Ly Int := ⟨1, fun x => [.int .i64 x], fun _ => rfl, fun x v h => by simp at h; subst h; rfl, by decide⟩
theorem hi3 : Try.prog.info? 3 = some Try.t3 := by kernel_rfl
theorem tiI : Ti il 30 3 := ⟨Try.underlying30, Try.t3, .int .i64 0, hi3, rfl, rfl, by decide, rfl⟩
theorem row3 {w : World} {k : Nat} {v0 v1 v2 : Value} {t : TypeId} (h : w.heap[k]? = some (.cells #[v0, v1, v2] t (0, 0))) :
    (w.cell? ⟨k, 0, none⟩ = some v0 ∧ w.cell? ⟨k, 1, none⟩ = some v1 ∧ w.cell? ⟨k, 2, none⟩ = some v2) ∧ ∀ j, w.frozen? ⟨k, j, none⟩ = false :=
  ⟨⟨by rw [cell_of_row w k 0 _ _ _ h]; rfl, by rw [cell_of_row w k 1 _ _ _ h]; rfl, by rw [cell_of_row w k 2 _ _ _ h]; rfl⟩, fun j => frozen_of_row w k j _ _ h⟩
theorem AtL.getI {w : World} {a : Option Addr} {l : List Int} (h : AtL il w a l) (j : Nat) (hj : j < l.length) : ∃ b off, a = some ⟨b, off, none⟩ ∧ w.cell? ⟨b, off + j, none⟩ = some (.int .i64 l[j]) := by
  obtain ⟨b, off, e, h0⟩ := h j hj
  have := h0 0 (by decide)
  rw [show off + j * il.n + 0 = off + j by simp [il]] at this
  exact ⟨b, off, e, this⟩
theorem il_cells (l : List Int) : il.cells l = l.map (Value.int .i64) := by
  induction l with
  | nil => rfl
  | cons x r ih => rw [Ly.cells, ih]; rfl
theorem row4 {w : World} {k : Nat} {v0 v1 v2 v3 : Value} {t : TypeId} (h : w.heap[k]? = some (.cells #[v0, v1, v2, v3] t (0, 0))) :
    (w.cell? ⟨k, 0, none⟩ = some v0 ∧ w.cell? ⟨k, 1, none⟩ = some v1 ∧ w.cell? ⟨k, 2, none⟩ = some v2 ∧ w.cell? ⟨k, 3, none⟩ = some v3) ∧ ∀ j, w.frozen? ⟨k, j, none⟩ = false :=
  ⟨⟨by rw [cell_of_row w k 0 _ _ _ h]; rfl, by rw [cell_of_row w k 1 _ _ _ h]; rfl, by rw [cell_of_row w k 2 _ _ _ h]; rfl, by rw [cell_of_row w k 3 _ _ _ h]; rfl⟩, fun j => frozen_of_row w k j _ _ h⟩
theorem row6 {w : World} {k : Nat} {v0 v1 v2 v3 v4 v5 : Value} {t : TypeId} (h : w.heap[k]? = some (.cells #[v0, v1, v2, v3, v4, v5] t (0, 0))) :
    (w.cell? ⟨k, 0, none⟩ = some v0 ∧ w.cell? ⟨k, 1, none⟩ = some v1 ∧ w.cell? ⟨k, 2, none⟩ = some v2 ∧ w.cell? ⟨k, 3, none⟩ = some v3 ∧ w.cell? ⟨k, 4, none⟩ = some v4 ∧ w.cell? ⟨k, 5, none⟩ = some v5) ∧ ∀ j, w.frozen? ⟨k, j, none⟩ = false :=
  ⟨⟨by rw [cell_of_row w k 0 _ _ _ h]; rfl, by rw [cell_of_row w k 1 _ _ _ h]; rfl, by rw [cell_of_row w k 2 _ _ _ h]; rfl, by rw [cell_of_row w k 3 _ _ _ h]; rfl, by rw [cell_of_row w k 4 _ _ _ h]; rfl, by rw [cell_of_row w k 5 _ _ _ h]; rfl⟩, fun j => frozen_of_row w k j _ _ h⟩
theorem bel_row {W W' : World} {B : Nat} {o : Obj} (h : W.heap[B]? = some o) (hb : Below W.heap.size W W') : W'.heap[B]? = some o := (hb.block B (Array.getElem?_eq_some_iff.1 h).1).trans h
/-- What has become of something whose own were F, and now are G: nothing else has changed. -/
structure Fr (w : World) (F : Nat → Prop) (w' : World) (G : Nat → Prop) : Prop where
  os : w'.os = w.os
  tape : w'.tape = w.tape
  output : w'.output = w.output
  size : w.heap.size ≤ w'.heap.size
  block : ∀ k, k < w.heap.size → ¬ F k → w'.heap[k]? = w.heap[k]?
  n : ∀ k, G k → F k ∨ w.heap.size ≤ k
theorem Fr.refl (w : World) (F : Nat → Prop) : Fr w F w F := ⟨rfl, rfl, rfl, Nat.le_refl _, fun _ _ _ => rfl, fun k h => .inl h⟩
theorem Fr.ofBelow {w w1 : World} {F : Nat → Prop} (h : Below w.heap.size w w1) : Fr w F w1 F := ⟨h.os, h.tape, h.output, h.size, fun k hk _ => h.block k hk, fun k h => .inl h⟩
theorem Fr.trans {w w1 w2 : World} {F G H : Nat → Prop} (h : Fr w F w1 G) (k : Fr w1 G w2 H) : Fr w F w2 H := by
  refine ⟨k.os.trans h.os, k.tape.trans h.tape, k.output.trans h.output, Nat.le_trans h.size k.size, fun c hc hF => ?_, fun c hc => ?_⟩
  · rw [k.block c (Nat.lt_of_lt_of_le hc h.size) (fun e => by
      rcases h.n c e with h' | h'
      · exact hF h'
      · omega)]
    exact h.block c hc hF
  · rcases k.n c hc with h' | h'
    · exact h.n c h'
    · exact .inr (Nat.le_trans h.size h')
theorem Fr.below {B : Nat} {w w1 : World} {F G : Nat → Prop} (h : Fr w F w1 G) (hF : ∀ k, F k → B ≤ k) (hB : B ≤ w.heap.size) : Below B w w1 :=
  ⟨h.os, h.tape, h.output, h.size, fun k hk => h.block k (by omega) (fun e => by have := hF k e; omega)⟩
theorem Fr.drew {w w1 : World} {F G : Nat → Prop} (h : Fr w F w1 G) : Fr w F w1.drew G := ⟨h.os, h.tape, h.output, h.size, h.block, h.n⟩
theorem Fr.drewN {w w1 : World} {F G : Nat → Prop} (h : Fr w F w1 G) (n : Nat) : Fr w F (w1.drewN n) G := ⟨h.os, h.tape, h.output, h.size, h.block, h.n⟩
theorem Fr.up {w w1 w2 : World} {F G : Nat → Prop} (h : Fr w F w1 G) (k : Below w1.heap.size w1 w2) : Fr w F w2 G := h.trans (Fr.ofBelow k)
theorem Pa {α : Type _} {l : List α} {i : Nat} {a : α} : l.toArray.setIfInBounds i a = (l.set i a).toArray := List.setIfInBounds_toArray _ _ _
theorem Pb {α : Type _} {a b : α} {l : List α} : (a :: l).set 0 b = b :: l := List.set_cons_zero
theorem Pc {α : Type _} {a b : α} {l : List α} {n : Nat} : (a :: l).set (n + 1) b = a :: l.set n b := List.set_cons_succ
theorem Lr {n : Nat} : n ≤ n := Nat.le_refl n
theorem Nh {α : Sort _} (e : α) : ∃ x, Hid (e = x) := ⟨e, rfl⟩
theorem Nq {α : Sort _} (e : α) : ∃ x, e = x := ⟨e, rfl⟩
/-! Regions that draw their order: shorter words. -/
section
open Go.RowKit
variable {P : Program} {md : Region.Mode} {ops : Array Oper} {Q : Exit → Act → World → Prop} {S : World → Prop} {oi : Oper} {v : Value} {fuel : Nat} {listed : Array Bool} {a : Act} {w : World}
theorem Tk (i : Nat) (oi : Oper) (v : Value) (hy : ∀ w, S w → (execOp a.eval oi).run P w = .ok (.value v) w) (hS : S w) (h : wpAnyH P md ops Q S fuel (listed.setIfInBounds i true) (a.put oi.dst v) w)
    (hi : ops[i]? = some oi := by (simp only [List.getElem?_toArray, List.getElem?_cons_succ, List.getElem?_cons_zero]; rfl)) (hw : Region.wanted oi (yielded ops a.tmps) = true := by rfl) (hs : Region.noSelect ops = true := by kernel_rfl) (hf : Region.free md ops listed i = true := by kernel_rfl) (hr : (Region.ready md ops listed).contains i = true := by kernel_rfl)
    (hQ : ∀ c a w, Q (.panic c) (a.put oi.dst v) w → Q (.panic c) a w := by exact fun _ _ _ h => h) : wpAnyH P md ops Q S (fuel + 1) listed a w := wpAnyH_take hi hs hf hr hQ (.inl ⟨hw, hy⟩) hS h
theorem Tm (i : Nat) (oi : Oper) (v : Value) (hS : S w) (h : wpAnyH P md ops Q S fuel (listed.setIfInBounds i true) (a.put oi.dst v) w)
    (hi : ops[i]? = some oi := by (simp only [List.getElem?_toArray, List.getElem?_cons_succ, List.getElem?_cons_zero]; rfl)) (hw : Region.wanted oi (yielded ops a.tmps) = true := by rfl) (hy : ∀ w, S w → (execOp a.eval oi).run P w = .ok (.value v) w := by (intro wq hq; clear hq; go_simp; try with_reducible rfl)) (hs : Region.noSelect ops = true := by kernel_rfl) (hf : Region.free md ops listed i = true := by kernel_rfl) (hr : (Region.ready md ops listed).contains i = true := by kernel_rfl)
    (hQ : ∀ c a w, Q (.panic c) (a.put oi.dst v) w → Q (.panic c) a w := by exact fun _ _ _ h => h) : wpAnyH P md ops Q S (fuel + 1) listed a w := wpAnyH_take hi hs hf hr hQ (.inl ⟨hw, hy⟩) hS h
theorem Ts (i : Nat) (oi : Oper) (hS : S w) (h : wpAnyH P md ops Q S fuel (listed.setIfInBounds i true) (a.put oi.dst undef) w)
    (hi : ops[i]? = some oi := by (simp only [List.getElem?_toArray, List.getElem?_cons_succ, List.getElem?_cons_zero]; rfl)) (hw : Region.wanted oi (yielded ops a.tmps) = false := by rfl) (hs : Region.noSelect ops = true := by kernel_rfl) (hf : Region.free md ops listed i = true := by kernel_rfl) (hr : (Region.ready md ops listed).contains i = true := by kernel_rfl)
    (hQ : ∀ c a w, Q (.panic c) (a.put oi.dst undef) w → Q (.panic c) a w := by exact fun _ _ _ h => h) : wpAnyH P md ops Q S (fuel + 1) listed a w := wpAnyH_take hi hs hf hr hQ (.inr ⟨hw, rfl⟩) hS h
theorem Rd (i : Nat) (oi : Oper) (h : ∀ K' : Act → World → Prop, Hid (∀ a' w', S w' → (S w' → wpAnyH P md ops Q S fuel (listed.setIfInBounds i true) a' w') → K' a' w') → if Region.wanted oi (yielded ops a.tmps) = true then Oper.wp P oi a w K' Q else K' (a.put oi.dst undef) w)
    (ho : ops[i]? = some oi := by (simp only [List.getElem?_toArray, List.getElem?_cons_succ, List.getElem?_cons_zero]; rfl)) (hr : Region.ready md ops listed = [i] := by kernel_rfl) : wpAnyH P md ops Q S (fuel + 1) listed a w := wpAnyH_ready hr (by simp) (AllReadyH.cons ho h AllReadyH.nil)
theorem Rc {i : Nat} {rs : List Nat} (oi : Oper) (h : ∀ K' : Act → World → Prop, Hid (∀ a' w', S w' → (S w' → wpAnyH P md ops Q S fuel (listed.setIfInBounds i true) a' w') → K' a' w') → if Region.wanted oi (yielded ops a.tmps) = true then Oper.wp P oi a w K' Q else K' (a.put oi.dst undef) w) (hs : AllReadyH P md ops Q S fuel listed a w rs)
    (ho : ops[i]? = some oi := by (simp only [List.getElem?_toArray, List.getElem?_cons_succ, List.getElem?_cons_zero]; rfl)) : AllReadyH P md ops Q S fuel listed a w (i :: rs) := AllReadyH.cons ho h hs
theorem Rn (rs : List Nat) (h : AllReadyH P md ops Q S fuel listed a w rs) (hr : Region.ready md ops listed = rs := by kernel_rfl) (hne : rs ≠ [] := by simp) : wpAnyH P md ops Q S (fuel + 1) listed a w := wpAnyH_ready hr hne h
end
end Go.Proofs.Ytgcfpihfoekllaa
