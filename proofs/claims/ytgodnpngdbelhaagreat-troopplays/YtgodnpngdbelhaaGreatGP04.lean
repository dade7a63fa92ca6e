import Derived.Test.YtgodnpngdbelhaaGreatGP01
import Derived.Test.YtgodnpngdbelhaaGreatRows
import Derived.WalkSpells
import Derived.WalkLawsBesides
import Derived.Deep.QuietTactic
import Derived.BigQuiet
import Derived.BigRegion
import Derived.RegionTactic
import Derived.Deep.RegionWith
import Derived.ProofKit
import Derived.Below
import Derived.Deep.WholeRow
import Derived.Laws.MakeOwn
import Derived.Laws.AppendOwn
import Derived.Laws.CopyRow
import Derived.Laws.CopyOwn
import Derived.Lib.Walk
import Derived.Deep.RegionHeld3
import Derived.Deep.AppendLies
import Derived.Lib.SliceRun
import Derived.Laws.ResultCell
import Derived.Deep.CutRange
import Derived.Laws.StructEq
import Derived.Laws.AppendOwnNone
import Derived.Maps.AppendAt
import Derived.Deep.RegionLaw
set_option maxRecDepth 100000
set_option maxHeartbeats 8000000
set_option linter.unusedVariables false
set_option linter.unusedSimpArgs false
open Go.Proofs.Tryz
namespace Go.Proofs.YtgodnpngdbelhaaGreat
open Go.RowKit
open M (E V)
theorem Hf {p : Prop} (h : p) : Hid p := h
theorem below_drewN {B : Nat} {a w : World} (h : Below B a w) (n : Nat) : Below B a (w.drewN n) := ⟨h.os, h.tape, h.output, h.size, h.block⟩
theorem bel1 (w : World) (o : Obj) : Below w.heap.size w (w.alloc o) := (Below.refl w.heap.size w).alloc Lr o
theorem Bu {B : Nat} {w w1 w2 : World} (h : Below B w w1) (h2 : Bl w1 w2) (hB : B ≤ w.heap.size) : Below B w w2 := h.trans (h2.mono (Nat.le_trans hB h.size))
theorem row1 {w : World} {k : Nat} {v0 : Value} {t : TypeId} (h : w.heap[k]? = some (.cells #[v0] t (0, 0))) : w.cell? ⟨k, 0, none⟩ = some v0 ∧ ∀ j, w.frozen? ⟨k, j, none⟩ = false :=
 ⟨by rw [cell_of_row w k 0 _ _ _ h]; rfl, fun j => frozen_of_row w k j _ _ h⟩
theorem row2 {w : World} {k : Nat} {v0 v1 : Value} {t : TypeId} (h : w.heap[k]? = some (.cells #[v0, v1] t (0, 0))) :
  (w.cell? ⟨k, 0, none⟩ = some v0 ∧ w.cell? ⟨k, 1, none⟩ = some v1) ∧ ∀ j, w.frozen? ⟨k, j, none⟩ = false :=
 ⟨⟨by rw [cell_of_row w k 0 _ _ _ h]; rfl, by rw [cell_of_row w k 1 _ _ _ h]; rfl⟩, fun j => frozen_of_row w k j _ _ h⟩
theorem row4 {w : World} {k : Nat} {v0 v1 v2 v3 : Value} {t : TypeId} (h : w.heap[k]? = some (.cells #[v0, v1, v2, v3] t (0, 0))) :
  (w.cell? ⟨k, 0, none⟩ = some v0 ∧ w.cell? ⟨k, 1, none⟩ = some v1 ∧ w.cell? ⟨k, 2, none⟩ = some v2 ∧ w.cell? ⟨k, 3, none⟩ = some v3) ∧ ∀ j, w.frozen? ⟨k, j, none⟩ = false :=
 ⟨⟨by rw [cell_of_row w k 0 _ _ _ h]; rfl, by rw [cell_of_row w k 1 _ _ _ h]; rfl, by rw [cell_of_row w k 2 _ _ _ h]; rfl, by rw [cell_of_row w k 3 _ _ _ h]; rfl⟩, fun j => frozen_of_row w k j _ _ h⟩
theorem Br {W W' : World} {B : Nat} {o : Obj} (h : W.heap[B]? = some o) (hb : Bl W W') : W'.heap[B]? = some o := (hb.block B (Array.getElem?_eq_some_iff.1 h).1).trans h
def blk (a : Option Addr) (k : Nat) : Prop := ∃ off s, a = some ⟨k, off, s⟩
structure Rw (w : World) (v : Value) (w' : World) (v' : Value) : Prop where
 g : w.grownBy w' v.ownBlock
 n : ∀ k, v'.ownBlock = some k → v.ownBlock = some k ∨ w.heap.size ≤ k
theorem Rw.refl (w : World) (v : Value) : Rw w v w v := ⟨⟨rfl, rfl, rfl, Nat.le_refl _, fun _ _ _ => rfl⟩, fun k h => .inl h⟩
theorem Rw.trans {w w1 w2 : World} {v v1 v2 : Value} (h : Rw w v w1 v1) (k : Rw w1 v1 w2 v2) : Rw w v w2 v2 := by
 refine ⟨⟨k.g.os.trans h.g.os, k.g.tape.trans h.g.tape, k.g.output.trans h.g.output, Nat.le_trans h.g.size k.g.size, fun b hb hne => ?_⟩, fun b hb => ?_⟩
 ·rw [k.g.block b (Nat.lt_of_lt_of_le hb h.g.size) (fun e => by
   rcases h.n b e.symm with h' | h'
   ·exact hne h'.symm
   ·omega)]
  exact h.g.block b hb hne
 ·rcases k.n b hb with h' | h'
  ·exact h.n b h'
  ·exact .inr (Nat.le_trans h.g.size h')
theorem Rw.ofBelow {w w1 : World} (v : Value) (h : Bl w w1) : Rw w v w1 v := ⟨⟨h.os, h.tape, h.output, h.size, fun k hk _ => h.block k hk⟩, fun k h => .inl h⟩
theorem Rw.below {B : Nat} {w w1 : World} {v v1 : Value} (h : Rw w v w1 v1) (hv : ∀ k, v.ownBlock = some k → B ≤ k) (hB : B ≤ w.heap.size) : Below B w w1 :=
 ⟨h.g.os, h.g.tape, h.g.output, h.g.size, fun k hk => h.g.block k (by omega) (fun e => by have := hv k e.symm; omega)⟩
theorem rw_lies {w w3 : World} {v : Value} {g n cp H : Nat} (hgrow : w.grownBy w3 v.ownBlock) (hat : v.ownBlock = some g ∨ g = H) (hH : w.heap.size = H) : Rw w v w3 (.slice (some ⟨g, 0, none⟩) n cp) := by
 refine ⟨hgrow, fun k hk => ?_⟩; simp only [Value.ownBlock, Option.some.injEq] at hk; subst hk; rcases hat with h | h
 ·exact .inl h
 ·exact .inr (by omega)
theorem owns_keepBut {w w1 : World} {base : Nat} {t : TypeId} {s : Nat} {v : Value} {n : Nat} {cs : List Value} (h : w.ownsRow base t s v n cs) (hb : ∀ k, k < w.heap.size → v.ownBlock = some k → w1.heap[k]? = w.heap[k]?) : w1.ownsRow base t s v n cs := by
 refine ⟨h.1, ?_⟩; rcases h.2 with ⟨rfl, h0⟩ | ⟨g, cap, cur, rfl, hb', hh, hc, hm, hs, ht⟩
 ·exact .inl ⟨rfl, h0⟩
 ·exact .inr ⟨g, cap, cur, rfl, hb', (hb g (Array.getElem?_eq_some_iff.1 hh).1 rfl).trans hh, hc, hm, hs, ht⟩
theorem owns_low {w : World} {base base' : Nat} {t : TypeId} {s : Nat} {v : Value} {n : Nat} {cs : List Value} (h : w.ownsRow base t s v n cs) (hb : base' ≤ base) : w.ownsRow base' t s v n cs := by
 refine ⟨h.1, ?_⟩; rcases h.2 with ⟨rfl, h0⟩ | ⟨g, cap, cur, rfl, hb', hh, hc, hm, hs, ht⟩
 ·exact .inl ⟨rfl, h0⟩
 ·exact .inr ⟨g, cap, cur, rfl, by omega, hh, hc, hm, hs, ht⟩
structure Ly (α : Type) where
 n : Nat
 cs : α → List Value
 len : ∀ x, (cs x).length = n
 one : ∀ x, ∀ v ∈ cs x, v.oneCell' = true
 pos : 0 < n
def Ly.cells {α : Type} (Y : Ly α) : List α → List Value
 | [] => []
 | x :: r => Y.cs x ++ Ly.cells Y r
section
variable {α : Type} (Y : Ly α)
theorem Ly.app : ∀ l q, Y.cells (l ++ q) = Y.cells l ++ Y.cells q
 | [], q => rfl
 | p :: r, q => by rw [List.cons_append, Ly.cells, Ly.app r q, Ly.cells, List.append_assoc]
theorem Ly.clen : ∀ l, (Y.cells l).length = l.length * Y.n
 | [] => by simp [Ly.cells]
 | p :: r => by rw [Ly.cells, List.length_append, Ly.clen r, Y.len, List.length_cons, Nat.add_mul]; omega
theorem Ly.get : ∀ (l : List α) (j : Nat) (h : j < l.length) (o : Nat) (ho : o < Y.n), (Y.cells l)[j * Y.n + o]? = some ((Y.cs l[j])[o]'(by rw [Y.len]; exact ho))
 | [], j, h, o, ho => by simp at h
 | p :: r, 0, h, o, ho => by
  rw [Ly.cells, Nat.zero_mul, Nat.zero_add, List.getElem?_append_left (by rw [Y.len]; exact ho), List.getElem?_eq_getElem (by rw [Y.len]; exact ho)]; rfl
 | p :: r, j + 1, h, o, ho => by
  have := Ly.get r j (by simpa using h) o ho; have e : (j + 1) * Y.n + o - (Y.cs p).length = j * Y.n + o := by rw [Y.len, Nat.add_mul]; omega
  rw [Ly.cells, List.getElem?_append_right (by rw [Y.len, Nat.add_mul]; omega), e]; exact this
theorem Ly.take : ∀ (l : List α) (k : Nat), (Y.cells l).take (k * Y.n) = Y.cells (l.take k)
 | l, 0 => by simp [Ly.cells]
 | [], k + 1 => by simp [Ly.cells]
 | p :: r, k + 1 => by
  rw [Ly.cells, List.take_succ_cons, Ly.cells, ← Ly.take r k, List.take_append, Y.len, List.take_of_length_le (by rw [Y.len, Nat.add_mul]; omega), show (k + 1) * Y.n - Y.n = k * Y.n by rw [Nat.add_mul]; omega]
theorem Ly.drop : ∀ (l : List α) (k : Nat), (Y.cells l).drop (k * Y.n) = Y.cells (l.drop k)
 | l, 0 => by simp
 | [], k + 1 => by simp [Ly.cells]
 | p :: r, k + 1 => by
  rw [Ly.cells, List.drop_succ_cons, ← Ly.drop r k, List.drop_append, Y.len, List.drop_of_length_le (by rw [Y.len, Nat.add_mul]; omega), show (k + 1) * Y.n - Y.n = k * Y.n by rw [Nat.add_mul]; omega, List.nil_append]
theorem Ly.ones : ∀ (l : List α), ∀ v ∈ Y.cells l, v.oneCell' = true
 | [], v, h => by simp [Ly.cells] at h
 | p :: r, v, h => by
  rw [Ly.cells, List.mem_append] at h; rcases h with h | h
  ·exact Y.one p v h
  ·exact Ly.ones r v h
theorem Ly.set1 : ∀ (l : List α) (i : Nat) (h : i < l.length) (o : Nat) (ho : o < Y.n) (x : α) (u : Value) (hx : Y.cs x = (Y.cs l[i]).set o u), (Y.cells l).set (i * Y.n + o) u = Y.cells (l.set i x)
 | [], i, h, o, ho, x, u, hx => by simp at h
 | e :: r, 0, h, o, ho, x, u, hx => by
  rw [Ly.cells, List.set_cons_zero, Ly.cells, hx, Nat.zero_mul, Nat.zero_add, List.set_append_left _ _ (by rw [Y.len]; exact ho)]; rfl
 | e :: r, i + 1, h, o, ho, x, u, hx => by
  have := Ly.set1 r i (by simpa using h) o ho x u (by simpa using hx); rw [Ly.cells, List.set_cons_succ, Ly.cells, ← this, List.set_append_right _ _ (by rw [Y.len, Nat.add_mul]; omega), show (i + 1) * Y.n + o - (Y.cs e).length = i * Y.n + o by rw [Y.len, Nat.add_mul]; omega]
def AtL (w : World) (a : Option Addr) (l : List α) : Prop :=
 ∀ j (h : j < l.length), ∃ b off, a = some ⟨b, off, none⟩ ∧ ∀ o (ho : o < Y.n), w.cell? ⟨b, off + j * Y.n + o, none⟩ = some ((Y.cs l[j])[o]'(by rw [Y.len]; exact ho))
variable {Y}
theorem AtL.keepBut {w w' : World} {a : Option Addr} {l : List α} (h : AtL Y w a l) (hb : ∀ k, k < w.heap.size → blk a k → w'.heap[k]? = w.heap[k]?) : AtL Y w' a l := by
 intro j hj; obtain ⟨b, off, rfl, h0⟩ := h j hj; have hk := hb b (World.block_lt_of_cell? w _ (h0 0 Y.pos)) ⟨off, none, rfl⟩; exact ⟨b, off, rfl, fun o ho => (World.cell?_of_block (w := w) (a := ⟨b, off + j * Y.n + o, none⟩) hk).trans (h0 o ho)⟩
theorem AtL.keep {w w' : World} {a : Option Addr} {l : List α} (h : AtL Y w a l) (hb : Bl w w') : AtL Y w' a l := h.keepBut fun k hk _ => hb.block k hk
theorem AtL.nil (w : World) (a : Option Addr) : AtL Y w a [] := fun j h => by simp at h
theorem add_n (b off j : Nat) : (⟨b, off, none⟩ : Addr).add j = ⟨b, off + j, none⟩ := by unfold Addr.add; split <;> simp_all
theorem AtL.cells {w : World} {b off : Nat} {l : List α} (h : AtL Y w (some ⟨b, off, none⟩) l) : ∀ j u, (Y.cells l)[j]? = some u → w.cell? ((⟨b, off, none⟩ : Addr).add j) = some u := by
 intro j u hu; have hjl : j < l.length * Y.n := by
  have := (List.getElem?_eq_some_iff.1 hu).1; rw [Y.clen] at this; exact this
 have hn := Y.pos; rw [add_n]; have hq : j / Y.n < l.length := Nat.div_lt_of_lt_mul (by rw [Nat.mul_comm]; exact hjl); have hm : j % Y.n < Y.n := Nat.mod_lt _ hn; obtain ⟨b', off', e, h0⟩ := h (j / Y.n) hq; cases e; have hdm : j / Y.n * Y.n + j % Y.n = j := by rw [Nat.mul_comm]; exact Nat.div_add_mod j Y.n
 have h1 := h0 (j % Y.n) hm; have h2 := Y.get l (j / Y.n) hq (j % Y.n) hm; rw [hdm, hu] at h2; rw [Nat.add_assoc, hdm] at h1; rw [h1, ← h2]
theorem AtL.drop {w : World} {b off : Nat} {l : List α} (h : AtL Y w (some ⟨b, off, none⟩) l) (q : Nat) : AtL Y w (some ⟨b, off + q * Y.n, none⟩) (l.drop q) := by
 intro j hj; simp only [List.length_drop] at hj; simp only [List.getElem_drop]; obtain ⟨b', off', e, h0⟩ := h (q + j) (by omega); cases e; refine ⟨b, off + q * Y.n, rfl, fun o ho => ?_⟩; rw [show off + q * Y.n + j * Y.n + o = off + (q + j) * Y.n + o by rw [Nat.add_mul]; omega]; exact h0 o ho
variable (Y)
def OwnL (t : TypeId) (w : World) (base : Nat) (v : Value) (l : List α) : Prop := w.ownsRow base t Y.n v l.length (Y.cells l)
structure XL (w : World) (a : Option Addr) (cap : Nat) (l : List α) : Prop where
 at' : AtL Y w a l
 le : l.length ≤ cap
 mx : cap ≤ maxLen
 nil : a = none → cap = 0
variable {Y}
section
variable {t : TypeId} {w w1 : World} {base base' : Nat} {v : Value} {l : List α}
theorem OwnL.nil (t : TypeId) (w : World) (base : Nat) : OwnL Y t w base (.slice none 0 0) [] := World.ownsRow_nil _ _ _ _
theorem OwnL.keepBut (h : OwnL Y t w base v l) (hb : ∀ k, k < w.heap.size → v.ownBlock = some k → w1.heap[k]? = w.heap[k]?) : OwnL Y t w1 base v l := owns_keepBut h hb
theorem OwnL.keep (h : OwnL Y t w base v l) (hb : Bl w w1) : OwnL Y t w1 base v l := owns_keepBut h fun k hk _ => hb.block k hk
theorem OwnL.low (h : OwnL Y t w base v l) (hb : base' ≤ base) : OwnL Y t w base' v l := owns_low h hb
theorem OwnL.lt (h : OwnL Y t w base v l) {b : Nat} (hb : v.ownBlock = some b) : base ≤ b ∧ b < w.heap.size := World.ownsRow.lt h b hb
theorem XL.keepBut {w w' : World} {a : Option Addr} {cap : Nat} {l : List α} (h : XL Y w a cap l) (hb : ∀ k, k < w.heap.size → blk a k → w'.heap[k]? = w.heap[k]?) : XL Y w' a cap l := ⟨h.at'.keepBut hb, h.le, h.mx, h.nil⟩
theorem XL.keep {w w' : World} {a : Option Addr} {cap : Nat} {l : List α} (h : XL Y w a cap l) (hb : Bl w w') : XL Y w' a cap l := ⟨h.at'.keep hb, h.le, h.mx, h.nil⟩
theorem XL.emp (w : World) : XL Y w none 0 [] := ⟨AtL.nil _ _, by simp, by decide, fun _ => rfl⟩
theorem OwnL.at (h : OwnL Y t w base v l) : ∃ a cap, v = .slice a l.length cap ∧ XL Y w a cap l ∧ (∀ k, blk a k → base ≤ k ∧ v.ownBlock = some k ∧ k < w.heap.size) := by
 rcases h.2 with ⟨rfl, h0⟩ | ⟨g, cap, cur, rfl, hb', hh, hc, hm, hs, ht⟩
 ·have e : l = [] := List.length_eq_zero_iff.1 h0; subst e; exact ⟨_, 0, rfl, XL.emp w, (fun k hk => by obtain ⟨_, _, h⟩ := hk; cases h)⟩
 ·refine ⟨some ⟨g, 0, none⟩, cap, rfl, ⟨fun j hj => ⟨g, 0, rfl, fun o ho => ?_⟩, hc, hm, fun h => by cases h⟩, (fun k hk => by obtain ⟨_, _, h⟩ := hk; simp at h; obtain ⟨rfl, _⟩ := h; exact ⟨hb', rfl, (Array.getElem?_eq_some_iff.1 hh).1⟩)⟩; have := World.ownsRow.cells h (g := g) rfl (j * Y.n + o) _ (Y.get l j hj o ho); rw [add_n] at this; rw [Nat.add_assoc]; exact this
theorem OwnL.set1 (h : OwnL Y t w base v l) (i : Nat) (hi : i < l.length) (o : Nat) (ho : o < Y.n) :
  ∃ g cap, v = .slice (some ⟨g, 0, none⟩) l.length cap ∧ base ≤ g ∧ g < w.heap.size ∧ w.cell? ⟨g, i * Y.n + o, none⟩ = some ((Y.cs l[i])[o]'(by rw [Y.len]; exact ho)) ∧ (∀ j, w.frozen? ⟨g, j, none⟩ = false) ∧ ∀ (x : α) (u : Value), Y.cs x = (Y.cs l[i]).set o u → OwnL Y t (w.setCell ⟨g, i * Y.n + o, none⟩ u) base v (l.set i x) := by
 have hlt := fun b hb => h.lt (b := b) hb; unfold OwnL at h; rcases h.2 with ⟨rfl, h0⟩ | ⟨g, cap, cur, hv, hb', hh, hc, hm, hs, ht⟩
 ·omega
 ·have key := World.ownsRow.cells h (g := g) (by rw [hv]; rfl) _ _ (Y.get l i hi o ho); rw [add_n, Nat.zero_add] at key; refine ⟨g, cap, hv, hb', (hlt g (by rw [hv]; rfl)).2, key, fun j => frozen_of_row w g _ _ _ hh, fun x u hx => ⟨by rw [Y.clen], .inr ⟨g, cap, _, by rw [hv]; simp, hb', heap_setCell_same w g _ _ _ _ hh, by simp; omega, hm, by simp; omega, ?_⟩⟩⟩; rw [Array.toList_setIfInBounds, List.take_set, List.length_set, ht, Y.set1 l i hi o ho x u hx]
end
variable (Y)
structure Ti (T t : TypeId) : Prop where
 u : prog.underlying T = some (.slice t)
 i : ∃ inf z, prog.info? t = some inf ∧ inf.zero = some z ∧ inf.size = Y.n ∧ inf.bytes ≤ 117 ∧ z.cells.size = Y.n
variable {Y}
theorem run_appL {T t : TypeId} (hT : Ti Y T t) (w : World) (ty : TypeId) (base : Nat) (v : Value) (l s : List α) (b off c n : Nat) (hown : OwnL Y t w base v l) (hs : AtL Y w (some ⟨b, off, none⟩) s) (hn : n = s.length) (hb : base ≤ w.heap.size) (hl : l.length + s.length ≤ 1000000) :
  ∃ a' c' w', (Builtin.append_ #[T, T] ty #[v, .slice (some ⟨b, off, none⟩) n c]).run prog w = .ok (.slice a' (l.length + s.length) c') w' ∧ OwnL Y t w' base (.slice a' (l.length + s.length) c') (l ++ s) ∧ Rw w v w' (.slice a' (l.length + s.length) c') := by
 subst hn; obtain ⟨inf, z, hi, hz, hsz, hby, hzs⟩ := hT.i; have hbytes : (l.length + s.length) * inf.bytes ≤ 140737488355328 := Nat.le_trans (Nat.mul_le_mul hl hby) (by omega); obtain ⟨v', w', hr, h2, h3, _, h5⟩ := run_append_own_at (P := prog) w base T ty t inf z Y.n inf.bytes hT.u hi hz hsz rfl hzs Y.pos v l.length (Y.cells l) hown ⟨b, off, none⟩ s.length c (Y.cells s) (Y.clen s) hs.cells (Y.ones s) (by unfold maxLen; omega) hbytes hb; have ho : OwnL Y t w' base v' (l ++ s) := by
  unfold OwnL; rw [Y.app, List.length_append]; exact h2
 obtain ⟨a', c', rfl, _, _⟩ := ho.at; rw [List.length_append] at hr ho h5 h2; refine ⟨a', c', w', hr, ho, h3, fun k hk => ?_⟩; rcases h5 with h5 | h5
 ·exact .inl (by rw [← h5]; exact hk)
 ·rw [h5] at hk; cases hk; exact .inr Lr
theorem append_ty {T : TypeId} (v u : Value) (w : World) (ty ty' : TypeId) : (Builtin.append_ #[T, T] ty #[v, u]).run prog w = (Builtin.append_ #[T, T] ty' #[v, u]).run prog w := rfl
theorem run_appL_ty {T t : TypeId} (hT : Ti Y T t) (w : World) (base : Nat) (v : Value) (l s : List α) (b off c n : Nat) (hown : OwnL Y t w base v l) (hs : AtL Y w (some ⟨b, off, none⟩) s) (hn : n = s.length) (hb : base ≤ w.heap.size) (hl : l.length + s.length ≤ 1000000) :
  ∃ a' c' w', (∀ ty, (Builtin.append_ #[T, T] ty #[v, .slice (some ⟨b, off, none⟩) n c]).run prog w = .ok (.slice a' (l.length + s.length) c') w') ∧ OwnL Y t w' base (.slice a' (l.length + s.length) c') (l ++ s) ∧ Rw w v w' (.slice a' (l.length + s.length) c') := by
 obtain ⟨a', c', w', h1, h2, h3⟩ := run_appL hT w 0 base v l s b off c n hown hs hn hb hl; exact ⟨a', c', w', fun ty => (append_ty _ _ _ ty 0).trans h1, h2, h3⟩
theorem run_append_nil0 {T t : TypeId} (hT : Ti Y T t) (w : World) (ty : TypeId) (a : Option Addr) (c : Nat) : (Builtin.append_ #[T, T] ty #[.slice none 0 0, .slice a 0 c]).run prog w = .ok (.slice none 0 0) w := by
 obtain ⟨inf, z, hi, hz, hsz, hby, hzs⟩ := hT.i; cases a with
 | none => simp [Builtin.append_, run_underlying hT.u, sizeOf, typeInfo, hi, Builtin.lenOf, Builtin.firstCells]
 | some ad =>
  have hl := run_loadCells_list (P := prog) w ad [] (by simp); simp at hl; simp [Builtin.append_, run_underlying hT.u, sizeOf, typeInfo, hi, Builtin.lenOf, Builtin.firstCells, hl]
theorem run_copyL {T t : TypeId} (hT : Ti Y T t) (w : World) (ty : TypeId) (a : Option Addr) (c : Nat) (s : List α) (hs : XL Y w a c s) (hl : s.length ≤ 1000000) :
  ∃ a' c' w', (Builtin.append_ #[T, T] ty #[.slice none 0 0, .slice a s.length c]).run prog w = .ok (.slice a' s.length c') w' ∧ OwnL Y t w' w.heap.size (.slice a' s.length c') s ∧ Bl w w' := by
 cases s with
 | nil => exact ⟨none, 0, w, run_append_nil0 hT w ty a c, OwnL.nil _ _ _, Below.refl _ _⟩
 | cons e r =>
  obtain ⟨b, off, rfl, _⟩ := hs.at' 0 (by simp); obtain ⟨a', c', w', h1, h2, h3⟩ := run_appL hT w ty w.heap.size (.slice none 0 0) [] (e :: r) b off c _ (OwnL.nil _ _ _) hs.at' rfl Lr (by simp at hl ⊢; omega); simp only [List.length_nil, Nat.zero_add, List.nil_append] at h1 h2 h3; exact ⟨a', c', w', h1, h2, h3.below (fun k hk => by simp [Value.ownBlock] at hk) Lr⟩
theorem atL_one {w : World} {k : Nat} {t : TypeId} {x : α} (h : w.heap[k]? = some (.cells (Y.cs x).toArray t (0, 0))) : AtL Y w (some ⟨k, 0, none⟩) [x] := by
 intro j hj; have : j = 0 := by simpa using hj
 subst this; refine ⟨k, 0, rfl, fun o ho => ?_⟩; rw [cell_of_row w k _ _ _ _ h]; simp [Y.len, ho]
end
theorem step_append_known {P : Program} {w : World} {ops : Array Oper} {o : Oper} {a : Act} {C : Act → World → Prop} {Q : Exit → Act → World → Prop} {E : Prop} (hgd : o.guard = none) (s x : Operand) (t : TypeId)
  (ho : o.op = .call { callee := .builtin .append, args := #[s, x], argTypes := #[t, t] }) (v sv : Value) (hs : a.eval s = v) (hx : a.eval x = sv) (v' : Value) (w' : World)
  (hr : (Builtin.append_ #[t, t] o.type #[v, sv]).run P w = .ok v' w') (h : C (a.put o.dst v') w') : if Region.wanted o (yielded ops a.tmps) = true then Oper.wp P o a w C Q else E := by
 have hw : Region.wanted o (yielded ops a.tmps) = true := by simp [Region.wanted, hgd]
 rw [if_pos hw]; unfold Oper.wp execOp; simp only [ho, resolve, invoke, builtin, Sem.run_bind, Sem.run_pure, Result.andThen_ok, List.map_toArray, List.map_cons, List.map_nil, hs, hx, hr]; exact h
theorem wpList_append_known {P : Program} {w : World} {ops : Array Oper} {rest : List Oper} {o : Oper} {a : Act} {Q : Exit → Act → World → Prop} (hgd : o.guard = none) (s x : Operand) (t : TypeId)
  (ho : o.op = .call { callee := .builtin .append, args := #[s, x], argTypes := #[t, t] }) (v sv : Value) (hs : a.eval s = v) (hx : a.eval x = sv) (v' : Value) (w' : World)
  (hr : (Builtin.append_ #[t, t] o.type #[v, sv]).run P w = .ok v' w') (h : wpList P ops Q rest (a.put o.dst v') w') : wpList P ops Q (o :: rest) a w := by
 refine wpList_plain hgd fun K' hK' => ?_; unfold Oper.wp execOp; simp only [ho, resolve, invoke, builtin, Sem.run_bind, Sem.run_pure, Result.andThen_ok, List.map_toArray, List.map_cons, List.map_nil, hs, hx, hr]; exact hK' _ _ h
def bl : Ly E := ⟨2, fun x => [.int .i64 x.i, .int .i64 x.t], fun _ => rfl, fun x v h => by simp at h; rcases h with rfl | rfl <;> rfl, by decide⟩
def vl : Ly V := ⟨4, fun x => [.int .i64 x.s, .int .i64 x.b.i, .int .i64 x.b.t, .string x.v], fun _ => rfl, fun x v h => by simp at h; rcases h with rfl | rfl | rfl | rfl <;> rfl, by decide⟩
theorem AtL.getB {w : World} {a : Option Addr} {l : List E} (h : AtL bl w a l) (j : Nat) (hj : j < l.length) : ∃ b off, a = some ⟨b, off, none⟩ ∧ w.cell? ⟨b, off + j * 2, none⟩ = some (.int .i64 l[j].i) ∧ w.cell? ⟨b, off + j * 2 + 1, none⟩ = some (.int .i64 l[j].t) := by
 obtain ⟨b, off, e, h0⟩ := h j hj; exact ⟨b, off, e, h0 0 (by decide), h0 1 (by decide)⟩
theorem AtL.getV {w : World} {a : Option Addr} {l : List V} (h : AtL vl w a l) (j : Nat) (hj : j < l.length) : ∃ b off, a = some ⟨b, off, none⟩ ∧ w.cell? ⟨b, off + j * 4, none⟩ = some (.int .i64 l[j].s) ∧ w.cell? ⟨b, off + j * 4 + 1, none⟩ = some (.int .i64 l[j].b.i) ∧ w.cell? ⟨b, off + j * 4 + 2, none⟩ = some (.int .i64 l[j].b.t) ∧ w.cell? ⟨b, off + j * 4 + 3, none⟩ = some (.string l[j].v) := by
 obtain ⟨b, off, e, h0⟩ := h j hj; exact ⟨b, off, e, h0 0 (by decide), h0 1 (by decide), h0 2 (by decide), h0 3 (by decide)⟩
theorem hi126 : prog.info? 126 = some Tryz.t126 := by kernel_rfl
theorem hz126 : Tryz.t126.zero = some (.agg #[.int .i64 0, .int .i64 0, .int .i64 0, .string ⟨#[]⟩]) := rfl
theorem hs126 : Tryz.t126.size = 4 := rfl
theorem hb126 : Tryz.t126.bytes = 40 := rfl
theorem Tryz.size126 : (prog.info? 126).map (·.size) = some 4 := by kernel_rfl
theorem Tryz.size42 : (prog.info? 42).map (·.size) = some 2 := by kernel_rfl
theorem tiV : Ti vl 43 126 := ⟨underlying43, Tryz.t126, .agg #[.int .i64 0, .int .i64 0, .int .i64 0, .string ⟨#[]⟩], hi126, rfl, rfl, by decide, rfl⟩
structure Fr (w : World) (F : Nat → Prop) (w' : World) (G : Nat → Prop) : Prop where
 os : w'.os = w.os
 tape : w'.tape = w.tape
 output : w'.output = w.output
 size : w.heap.size ≤ w'.heap.size
 block : ∀ k, k < w.heap.size → ¬ F k → w'.heap[k]? = w.heap[k]?
 n : ∀ k, G k → F k ∨ w.heap.size ≤ k
theorem Fr.refl (w : World) (F : Nat → Prop) : Fr w F w F := ⟨rfl, rfl, rfl, Nat.le_refl _, fun _ _ _ => rfl, fun k h => .inl h⟩
theorem Fr.ofBelow {w w1 : World} {F : Nat → Prop} (h : Bl w w1) : Fr w F w1 F := ⟨h.os, h.tape, h.output, h.size, fun k hk _ => h.block k hk, fun k h => .inl h⟩
theorem Fr.trans {w w1 w2 : World} {F G H : Nat → Prop} (h : Fr w F w1 G) (k : Fr w1 G w2 H) : Fr w F w2 H := by
 refine ⟨k.os.trans h.os, k.tape.trans h.tape, k.output.trans h.output, Nat.le_trans h.size k.size, fun c hc hF => ?_, fun c hc => ?_⟩
 ·rw [k.block c (Nat.lt_of_lt_of_le hc h.size) (fun e => by
   rcases h.n c e with h' | h'
   ·exact hF h'
   ·omega)]
  exact h.block c hc hF
 ·rcases k.n c hc with h' | h'
  ·exact h.n c h'
  ·exact .inr (Nat.le_trans h.size h')
theorem Fr.below {B : Nat} {w w1 : World} {F G : Nat → Prop} (h : Fr w F w1 G) (hF : ∀ k, F k → B ≤ k) (hB : B ≤ w.heap.size) : Below B w w1 :=
 ⟨h.os, h.tape, h.output, h.size, fun k hk => h.block k (by omega) (fun e => by have := hF k e; omega)⟩
theorem Fr.up {w w1 w2 : World} {F G : Nat → Prop} (h : Fr w F w1 G) (k : Bl w1 w2) : Fr w F w2 G := h.trans (Fr.ofBelow k)
section
open Go.RowKit
variable {P : Program} {md : Region.Mode} {ops : Array Oper} {Q : Exit → Act → World → Prop} {S : World → Prop} {oi : Oper} {v : Value} {fuel : Nat} {listed : Array Bool} {a : Act} {w : World}
theorem Tk (i : Nat) (oi : Oper) (v : Value) (hy : ∀ w, S w → (execOp a.eval oi).run P w = .ok (.value v) w) (hS : S w) (h : wpAnyH P md ops Q S fuel (listed.setIfInBounds i true) (a.put oi.dst v) w)
  (hi : ops[i]? = some oi := by (simp only [List.getElem?_toArray, List.getElem?_cons_succ, List.getElem?_cons_zero]; rfl)) (hw : Region.wanted oi (yielded ops a.tmps) = true := by rfl) (hs : Region.noSelect ops = true := by kernel_rfl) (hf : Region.free md ops listed i = true := by kernel_rfl) (hr : (Region.ready md ops listed).contains i = true := by kernel_rfl)
  (hQ : ∀ c a w, Q (.panic c) (a.put oi.dst v) w → Q (.panic c) a w := by exact fun _ _ _ h => h) : wpAnyH P md ops Q S (fuel + 1) listed a w := wpAnyH_take hi hs hf hr hQ (.inl ⟨hw, hy⟩) hS h
theorem Tm (i : Nat) {oi : Oper} {v : Value} (hS : S w) (h : wpAnyH P md ops Q S fuel (listed.setIfInBounds i true) (a.put oi.dst v) w)
  (hi : ops[i]? = some oi := by (simp only [List.getElem?_toArray, List.getElem?_cons_succ, List.getElem?_cons_zero]; rfl)) (hw : Region.wanted oi (yielded ops a.tmps) = true := by rfl) (hy : ∀ w, S w → (execOp a.eval oi).run P w = .ok (.value v) w := by (intro wq hq; clear hq; go_simp; try with_reducible rfl)) (hs : Region.noSelect ops = true := by kernel_rfl) (hf : Region.free md ops listed i = true := by kernel_rfl) (hr : (Region.ready md ops listed).contains i = true := by kernel_rfl)
  (hQ : ∀ c a w, Q (.panic c) (a.put oi.dst v) w → Q (.panic c) a w := by exact fun _ _ _ h => h) : wpAnyH P md ops Q S (fuel + 1) listed a w := wpAnyH_take hi hs hf hr hQ (.inl ⟨hw, hy⟩) hS h
theorem Tj (i : Nat) {oi : Oper} {v : Value} (hS : S w) (h : wpAnyH P md ops Q S fuel (listed.setIfInBounds i true) (a.put oi.dst v) w)
  (hi : ops[i]? = some oi := by (simp only [List.getElem?_toArray, List.getElem?_cons_succ, List.getElem?_cons_zero]; rfl)) (hw : Region.wanted oi (yielded ops a.tmps) = true := by rfl) (hy : ∀ w, S w → (execOp a.eval oi).run P w = .ok (.value v) w := by (intro q h; have g := HS.out q h; go_simp; try with_reducible rfl)) (hs : Region.noSelect ops = true := by kernel_rfl) (hf : Region.free md ops listed i = true := by kernel_rfl) (hr : (Region.ready md ops listed).contains i = true := by kernel_rfl)
  (hQ : ∀ c a w, Q (.panic c) (a.put oi.dst v) w → Q (.panic c) a w := by exact fun _ _ _ h => h) : wpAnyH P md ops Q S (fuel + 1) listed a w := wpAnyH_take hi hs hf hr hQ (.inl ⟨hw, hy⟩) hS h
theorem Wm {id : Nat} {a : Act} {w : World} (S : World → Prop) (h0 : S w.drew) (h : ∀ wd, Bl w wd → S wd → wpAnyH P .any ops Q S ops.size (Array.replicate ops.size false) a wd) (hm : P.follows .mixedOrders = true := by kernel_rfl) : (Code.region id ops true).wp P Q a w := wp_region_held_drew (S := S) hm h0 fun hs => h _ (Below.drew (Below.refl _ _)) hs
theorem Wn {id : Nat} {a : Act} {w : World} (h : ∀ wd, Bl w wd → Bl w wd → wpAnyH P .any ops Q (fun wq => Bl w wq) ops.size (Array.replicate ops.size false) a wd) (hm : P.follows .mixedOrders = true := by kernel_rfl) : (Code.region id ops true).wp P Q a w := Wm _ (Below.drew (Below.refl _ _)) h hm
theorem Wd {fuel : Nat} (h : Q .normal a w) (hr : Region.ready md ops listed = [] := by kernel_rfl) : wpAnyH P md ops Q S fuel listed a w := wpAnyH_done hr h _
theorem Ts (i : Nat) {oi : Oper} (hS : S w) (h : wpAnyH P md ops Q S fuel (listed.setIfInBounds i true) (a.put oi.dst undef) w)
  (hi : ops[i]? = some oi := by (simp only [List.getElem?_toArray, List.getElem?_cons_succ, List.getElem?_cons_zero]; rfl)) (hw : Region.wanted oi (yielded ops a.tmps) = false := by rfl) (hs : Region.noSelect ops = true := by kernel_rfl) (hf : Region.free md ops listed i = true := by kernel_rfl) (hr : (Region.ready md ops listed).contains i = true := by kernel_rfl)
  (hQ : ∀ c a w, Q (.panic c) (a.put oi.dst undef) w → Q (.panic c) a w := by exact fun _ _ _ h => h) : wpAnyH P md ops Q S (fuel + 1) listed a w := wpAnyH_take hi hs hf hr hQ (.inr ⟨hw, rfl⟩) hS h
theorem Rd (i : Nat) (oi : Oper) (h : ∀ K' : Act → World → Prop, Hid (∀ a' w', S w' → (S w' → wpAnyH P md ops Q S fuel (listed.setIfInBounds i true) a' w') → K' a' w') → if Region.wanted oi (yielded ops a.tmps) = true then Oper.wp P oi a w K' Q else K' (a.put oi.dst undef) w)
  (ho : ops[i]? = some oi := by (simp only [List.getElem?_toArray, List.getElem?_cons_succ, List.getElem?_cons_zero]; rfl)) (hr : Region.ready md ops listed = [i] := by kernel_rfl) : wpAnyH P md ops Q S (fuel + 1) listed a w := wpAnyH_ready hr (by simp) (AllReadyH.cons ho h AllReadyH.nil)
theorem Rc {i : Nat} {rs : List Nat} (oi : Oper) (h : ∀ K' : Act → World → Prop, Hid (∀ a' w', S w' → (S w' → wpAnyH P md ops Q S fuel (listed.setIfInBounds i true) a' w') → K' a' w') → if Region.wanted oi (yielded ops a.tmps) = true then Oper.wp P oi a w K' Q else K' (a.put oi.dst undef) w) (hs : AllReadyH P md ops Q S fuel listed a w rs)
  (ho : ops[i]? = some oi := by (simp only [List.getElem?_toArray, List.getElem?_cons_succ, List.getElem?_cons_zero]; rfl)) : AllReadyH P md ops Q S fuel listed a w (i :: rs) := AllReadyH.cons ho h hs
theorem Rn (rs : List Nat) (h : AllReadyH P md ops Q S fuel listed a w rs) (hr : Region.ready md ops listed = rs := by kernel_rfl) (hne : rs ≠ [] := by simp) : wpAnyH P md ops Q S (fuel + 1) listed a w := wpAnyH_ready hr hne h
end
theorem Ab {w W : World} {o : Obj} (h : Hid (w.alloc o = W)) : Below w.heap.size w W := by rw [← h.out]; exact bel1 _ _
theorem Aq {w W : World} {o : Obj} (h : w.alloc o = W) : Below w.heap.size w W := by rw [← h]; exact bel1 _ _
theorem Ac {w W : World} {o : Obj} (h : Hid (w.alloc o = W)) : W.heap[w.heap.size]? = some o := by rw [← h.out]; exact heap_alloc_last _ _
theorem Aw {w W : World} {o : Obj} (h : w.alloc o = W) : W.heap[w.heap.size]? = some o := by rw [← h]; exact heap_alloc_last _ _
theorem Ad {w W : World} (h : w.drew = W) : Below w.heap.size w W := by rw [← h]; exact Below.drew (Below.refl _ _)
end Go.Proofs.YtgodnpngdbelhaaGreat
namespace Go.Proofs.YtgodnpngdbelhaaGreat
open Go.RowKit
open M (E)
theorem isnan_any (a : Int) (w : World) : Calls prog 142 #[.int .i64 a] w fun e w' => e = .returned (.bool false) ∧ w' = w := by
 go_enter func142, ntmps142; go_wp2; go_ret; exact ⟨rfl, rfl⟩
theorem compare_any (a b : Int) (w : World) : Calls prog 134 #[.int .i64 a, .int .i64 b] w fun e w' => e = .returned (.int .i64 (M.cmp a b)) ∧ w' = w := by
 rcases M.cmp_three a b with ⟨h, e⟩ | ⟨h, e⟩ | ⟨h, e⟩
 ·rw [e]; clear e; go_enter func134, ntmps134; go_wp2_with fail; refine (isnan_any _ _).mono ?_; rintro e w1 ⟨rfl, rfl⟩; go_wp2_with fail; refine (isnan_any _ _).mono ?_; rintro e w2 ⟨rfl, rfl⟩; go_wp2; go_ret; exact ⟨rfl, rfl⟩
 ·rw [e]; clear e; subst h; go_enter func134, ntmps134; go_wp2_with fail; refine (isnan_any _ _).mono ?_; rintro e w1 ⟨rfl, rfl⟩; go_wp2_with fail; refine (isnan_any _ _).mono ?_; rintro e w2 ⟨rfl, rfl⟩; go_wp2; go_ret; exact ⟨rfl, rfl⟩
 ·rw [e]; clear e; have h' : ¬ a < b := by omega
  go_enter func134, ntmps134; go_wp2_with fail; refine (isnan_any _ _).mono ?_; rintro e w1 ⟨rfl, rfl⟩; go_wp2_with fail; refine (isnan_any _ _).mono ?_; rintro e w2 ⟨rfl, rfl⟩; go_wp2; go_ret; exact ⟨rfl, rfl⟩
def orI (x y : Int) : Int := if x = 0 then y else x
theorem or_any (g : Nat) (x y : Int) (w : World) (h : w.heap[g]? = some (.cells #[.int .i64 x, .int .i64 y] 3 (0, 0))) :
  Calls prog 133 #[.slice (some ⟨g, 0, none⟩) 2 2] w fun e w' => e = .returned (.int .i64 (orI x y)) ∧ w' = w := by
 obtain ⟨c0, _⟩ := row2 h; clear h; have H1 : Hid (x ≠ 0 → orI x y = x) := fun h => by unfold orI; rw [if_neg h]
 have H2 : Hid (x = 0 → orI x y = y) := fun h => by unfold orI; rw [if_pos h]
 generalize orI x y = R at *; go_enter func133, ntmps133; go_wp2; go_loopw [8] (fun i wr => ∃ k : Nat, k ≤ 2 ∧ (0 < k → x = 0) ∧ (1 < k → y = 0) ∧ i = .int .i64 k ∧ wr = w) (fun i _ => 2 - (intOf i).toNat)
 case atStart => exact ⟨0, by omega, by omega, by omega, rfl, rfl⟩
 case round =>
  obtain ⟨k, hk, hx, hy, rfl, rfl⟩ := hrel
  match k, hk with
  | 0, _ =>
   clear hx hy; by_cases h0 : x = 0
   ·have hb : (x == 0) = true := by simpa using h0
    have HX := Hf h0; clear h0; go_wp2; go_roundw
    case rel => exact ⟨1, by omega, fun _ => HX.out, by omega, rfl, by trivial⟩
    case measure => simp [intOf]
   ·obtain rfl := H1.out h0; go_wp2; go_ret; exact ⟨rfl, rfl⟩
  | 1, _ =>
   have HX := Hf (hx (by omega)); obtain rfl := H2.out HX.out; clear hx hy H1 H2; by_cases h0 : R = 0
   ·have HY := Hf h0; have hb : (R == 0) = true := by simpa using h0
    clear h0; go_wp2; go_roundw
    case rel => exact ⟨2, by omega, fun _ => HX.out, fun _ => HY.out, rfl, by trivial⟩
    case measure => simp [intOf]
   ·go_wp2; go_ret; exact ⟨rfl, rfl⟩
  | 2, _ =>
   have HX := hx (by omega); have HY := hy (by omega); obtain rfl := H2.out HX; subst HY; clear hx hy H1 H2; go_wp2; go_ret; exact ⟨rfl, rfl⟩
theorem cmp_any (x y : E) (w : World) :
  Calls prog 122 #[.agg #[.int .i64 x.i, .int .i64 x.t], .agg #[.int .i64 y.i, .int .i64 y.t]] w fun e w' => e = .returned (.int .i64 (M.cmpE x y)) ∧ Bl w w' := by
 have HC : Hid (M.cmpE x y = orI (M.cmp x.i y.i) (M.cmp x.t y.t)) := rfl; rw [HC.out]; clear HC; obtain ⟨xi, xt⟩ := x; obtain ⟨yi, yt⟩ := y; simp only; obtain ⟨W1, HW1⟩ := Nh ((w.alloc (.cells #[.int .i64 xi, .int .i64 xt] 42)).alloc (.cells #[.int .i64 yi, .int .i64 yt] 42)); have HB1 : Hid (Bl w W1) := by rw [← HW1.out]; exact (bel1 w _).alloc (by simp) _
 have hs1 : W1.heap.size = w.heap.size + 2 := by rw [← HW1.out]; simp
 have HS : Hid (∀ w', Bl W1 w' → (w'.cell? ⟨w.heap.size, 0, none⟩ = some (.int .i64 xi) ∧ w'.cell? ⟨w.heap.size, 1, none⟩ = some (.int .i64 xt)) ∧ (w'.cell? ⟨w.heap.size + 1, 0, none⟩ = some (.int .i64 yi) ∧ w'.cell? ⟨w.heap.size + 1, 1, none⟩ = some (.int .i64 yt))) := by
  intro w' hb; have h1 : W1.heap[w.heap.size]? = some (.cells #[.int .i64 xi, .int .i64 xt] 42 (0, 0)) := by rw [← HW1.out]; exact heap_alloc2_old w _ _
  have h2 : W1.heap[w.heap.size + 1]? = some (.cells #[.int .i64 yi, .int .i64 yt] 42 (0, 0)) := by rw [← HW1.out]; exact heap_alloc2_new w _ _
  exact ⟨(row2 ((hb.block _ (by omega)).trans h1)).1, (row2 ((hb.block _ (by omega)).trans h2)).1⟩
 go_enter func122, ntmps122; go_wp2_with fail; rw [HW1.out]; clear HW1; have HL : Hid (∀ a b : Value, (W1.alloc (.cells #[a, b] 3)).drew.heap[w.heap.size + 2]? = some (.cells #[a, b] 3 (0, 0))) := fun a b => by rw [← hs1]; exact heap_alloc_last W1 _
 refine wp_region_held_drew (S := fun wq => Below (W1).heap.size (W1) wq) (by kernel_rfl) (Below.drew (Below.refl _ _)) fun Hl => ?_; refine Tm 0 Hl ?_; refine Tj 1 Hl ?_; refine Tm 2 Hl ?_; refine Tj 3 Hl ?_; refine Tm 5 Hl ?_; refine Tj 6 Hl ?_; refine Tm 7 Hl ?_; refine Tj 8 Hl ?_; simp only [Act.put, Pz]; refine Rd 4 ?pI ?sI; intro K hK; go_simp; refine (compare_any _ _ _).mono ?_; rintro x w2 ⟨rfl, rfl⟩; refine hK.out _ _ Hl fun Hl => ?_; refine Rd 9 ?pJ ?sJ; intro K hK; go_simp; refine (compare_any _ _ _).mono ?_; rintro x w3 ⟨rfl, rfl⟩; refine hK.out _ _ Hl fun Hl => ?_; refine Rd 10 ?pK ?sK; intro K hK; go_simp
 refine hK.out _ _ ((bel1 W1 _).drew) fun Hl => ?_; refine Rd 11 ?pL ?sL; intro K hK; go_simp; refine (or_any (w.heap.size + 2) _ _ _ (HL.out _ _)).mono ?_; rintro x w4 ⟨rfl, rfl⟩; refine hK.out _ _ Hl fun Hl => ?_; refine Tm 12 Hl ?_; simp only [Act.put, Pz]; refine Wd ?_; go_wp2; go_ret; exact ⟨rfl, Bu HB1.out Hl Lr⟩
end Go.Proofs.YtgodnpngdbelhaaGreat
