/-
  Rows of what is under way in memory: read, and of one's own; rows of links.
-/
import Derived.Test.YtjbodjjeenjbeaaNM
import Derived.Deep.AppendLies
import Derived.Laws.AppendOwn
import Derived.Laws.CopyOwn
import Derived.Laws.ResultCell
import Derived.Deep.RegionLaw
import Derived.Deep.RegionWith
import Derived.Lib.Overlaps
import Derived.Lib.AppendZerosOnto
import Derived.Lib.SliceRun
namespace Go.Proofs.Ytjbodjjeenjbeaa
open Go.RowKit
set_option linter.unusedVariables false
open Nt (Pk)

theorem rw1 {w : World} {k : Nat} {v0 : Value} {t : TypeId} (h : w.heap[k]? = some (.cells #[v0] t (0, 0))) : w.cell? ⟨k, 0, none⟩ = some v0 ∧ ∀ j, w.frozen? ⟨k, j, none⟩ = false :=
  ⟨by rw [cell_of_row w k 0 _ _ _ h]; rfl, fun j => frozen_of_row w k j _ _ h⟩
theorem rw3 {w : World} {k : Nat} {v0 v1 v2 : Value} {t : TypeId} (h : w.heap[k]? = some (.cells #[v0, v1, v2] t (0, 0))) :
    (w.cell? ⟨k, 0, none⟩ = some v0 ∧ w.cell? ⟨k, 1, none⟩ = some v1 ∧ w.cell? ⟨k, 2, none⟩ = some v2) ∧ ∀ j, w.frozen? ⟨k, j, none⟩ = false :=
  ⟨row3 h, fun j => frozen_of_row w k j _ _ h⟩

/-- The cells of what is under way. -/
def PC : List Pk → List Value
  | [] => []
  | p :: r => .int .i64 p.a :: .int .i64 p.b :: .string p.s :: PC r
theorem PC_app : ∀ l q, PC (l ++ q) = PC l ++ PC q
  | [], q => rfl
  | p :: r, q => by rw [List.cons_append, PC, PC_app r q]; rfl
theorem PC_len : ∀ l, (PC l).length = l.length * 3
  | [] => rfl
  | p :: r => by rw [PC]; simp [PC_len r]; omega
theorem PC_get : ∀ (l : List Pk) (j : Nat) (h : j < l.length), (PC l)[j * 3]? = some (.int .i64 l[j].a) ∧ (PC l)[j * 3 + 1]? = some (.int .i64 l[j].b) ∧ (PC l)[j * 3 + 2]? = some (.string l[j].s)
  | [], j, h => by simp at h
  | p :: r, 0, h => by simp [PC]
  | p :: r, j + 1, h => by
    have := PC_get r j (by simpa using h)
    rw [PC, show (j + 1) * 3 = j * 3 + 1 + 1 + 1 by omega]
    simpa using this
theorem PC_take : ∀ (l : List Pk) (k : Nat), (PC l).take (k * 3) = PC (l.take k)
  | l, 0 => by simp [PC]
  | [], k + 1 => by simp [PC]
  | p :: r, k + 1 => by
    rw [PC, show (k + 1) * 3 = k * 3 + 1 + 1 + 1 by omega]
    simp only [List.take_succ_cons, PC, PC_take r k]
theorem PC_drop : ∀ (l : List Pk) (k : Nat), (PC l).drop (k * 3) = PC (l.drop k)
  | l, 0 => by simp
  | [], k + 1 => by simp [PC]
  | p :: r, k + 1 => by
    rw [PC, show (k + 1) * 3 = k * 3 + 1 + 1 + 1 by omega]
    simp only [List.drop_succ_cons, PC_drop r k]
theorem PC_one : ∀ (l : List Pk), ∀ v ∈ PC l, v.oneCell' = true
  | [], v, h => by simp [PC] at h
  | p :: r, v, h => by
    simp only [PC, List.mem_cons] at h
    rcases h with rfl | rfl | rfl | h
    · rfl
    · rfl
    · rfl
    · exact PC_one r v h
theorem PC_tl (L : List Pk) (i : Nat) (hi : i ≤ L.length) : (PC (L.take i)).length = i * 3 := by rw [PC_len, List.length_take, Nat.min_eq_left hi]
theorem PC_set2 : ∀ (l : List Pk) (i : Nat) (h : i < l.length) (s : ByteArray), (PC l).set (i * 3 + 2) (.string s) = PC (l.set i ⟨l[i].a, l[i].b, s⟩)
  | [], i, h, s => by simp at h
  | e :: r, 0, h, s => by simp [PC]
  | e :: r, i + 1, h, s => by
    have := PC_set2 r i (by simpa using h) s
    rw [PC, show (i + 1) * 3 + 2 = i * 3 + 2 + 1 + 1 + 1 by omega]
    simp only [List.set_cons_succ, this, List.getElem_cons_succ, PC]
/-- A slice of them in memory. -/
def AtP (w : World) (a : Option Addr) (l : List Pk) : Prop :=
  ∀ j (h : j < l.length), ∃ b off, a = some ⟨b, off, none⟩ ∧ w.cell? ⟨b, off + j * 3, none⟩ = some (.int .i64 l[j].a) ∧ w.cell? ⟨b, off + j * 3 + 1, none⟩ = some (.int .i64 l[j].b) ∧ w.cell? ⟨b, off + j * 3 + 2, none⟩ = some (.string l[j].s)
theorem AtP.keepBut {w w' : World} {a : Option Addr} {l : List Pk} (h : AtP w a l) (hb : ∀ k, k < w.heap.size → blk a k → w'.heap[k]? = w.heap[k]?) : AtP w' a l := by
  intro j hj
  obtain ⟨b, off, rfl, h0, h1, h2⟩ := h j hj
  have hk := hb b (World.block_lt_of_cell? w _ h0) ⟨off, none, rfl⟩
  exact ⟨b, off, rfl, (World.cell?_of_block (w := w) (a := ⟨b, off + j * 3, none⟩) hk).trans h0, (World.cell?_of_block (w := w) (a := ⟨b, off + j * 3 + 1, none⟩) hk).trans h1, (World.cell?_of_block (w := w) (a := ⟨b, off + j * 3 + 2, none⟩) hk).trans h2⟩
theorem AtP.keep {w w' : World} {a : Option Addr} {l : List Pk} (h : AtP w a l) (hb : Below w.heap.size w w') : AtP w' a l := h.keepBut fun k hk _ => hb.block k hk
theorem atP_cells {w : World} {b off : Nat} {l : List Pk} (h : AtP w (some ⟨b, off, none⟩) l) : ∀ j u, (PC l)[j]? = some u → w.cell? ((⟨b, off, none⟩ : Addr).add j) = some u := by
  intro j u hu
  have hjl : j < l.length * 3 := by
    have := (List.getElem?_eq_some_iff.1 hu).1
    rw [PC_len] at this
    exact this
  have hadd : (⟨b, off, none⟩ : Addr).add j = ⟨b, off + j, none⟩ := by unfold Addr.add; split <;> simp_all
  rw [hadd]
  have hq : j / 3 < l.length := by omega
  obtain ⟨b', off', e, h0, h1, h2⟩ := h (j / 3) hq
  cases e
  have hr := PC_get l (j / 3) hq
  rcases (by omega : j = j / 3 * 3 ∨ j = j / 3 * 3 + 1 ∨ j = j / 3 * 3 + 2) with hj | hj | hj
  · rw [hj] at hu ⊢; rw [hr.1] at hu; rw [h0, hu]
  · rw [hj] at hu ⊢; rw [hr.2.1] at hu; rw [← Nat.add_assoc, h1, hu]
  · rw [hj] at hu ⊢; rw [hr.2.2] at hu; rw [← Nat.add_assoc, h2, hu]
theorem AtP.take {w : World} {a : Option Addr} {l : List Pk} (h : AtP w a l) (q : Nat) : AtP w a (l.take q) := by
  intro j hj
  simp only [List.length_take] at hj
  rw [List.getElem_take]
  exact h j (by omega)
theorem AtP.drop {w : World} {b off : Nat} {l : List Pk} (h : AtP w (some ⟨b, off, none⟩) l) (q : Nat) : AtP w (some ⟨b, off + q * 3, none⟩) (l.drop q) := by
  intro j hj
  simp only [List.length_drop] at hj
  rw [List.getElem_drop]
  obtain ⟨b', off', e, h0, h1, h2⟩ := h (q + j) (by omega)
  cases e
  exact ⟨b, off + q * 3, rfl, by rw [show off + q * 3 + j * 3 = off + (q + j) * 3 by omega]; exact h0, by rw [show off + q * 3 + j * 3 + 1 = off + (q + j) * 3 + 1 by omega]; exact h1, by rw [show off + q * 3 + j * 3 + 2 = off + (q + j) * 3 + 2 by omega]; exact h2⟩
/-- The two types of such slices. -/
structure Pt (T t : TypeId) : Prop where
  u : Try.prog.underlying T = some (.slice t)
  i : ∃ inf z, Try.prog.info? t = some inf ∧ inf.zero = some z ∧ inf.size = 3 ∧ inf.bytes = 32 ∧ z.cells.size = 3
theorem hi73 : Try.prog.info? 73 = some Try.t73 := by kernel_rfl
theorem hz73 : Try.t73.zero = some (.agg #[.int .i64 0, .int .i64 0, .string ⟨#[]⟩]) := rfl
theorem hs73 : Try.t73.size = 3 := rfl
theorem hb73 : Try.t73.bytes = 32 := rfl
theorem pt59 : Pt 59 73 := ⟨Try.underlying59, Try.t73, _, hi73, hz73, hs73, hb73, rfl⟩
theorem hi44 : Try.prog.info? 44 = some Try.t44 := by kernel_rfl
theorem hz44 : Try.t44.zero = some (.agg #[.int .i64 0, .int .i64 0, .string ⟨#[]⟩]) := rfl
theorem hs44 : Try.t44.size = 3 := rfl
theorem hb44 : Try.t44.bytes = 32 := rfl
theorem pt27 : Pt 27 44 := ⟨Try.underlying27, Try.t44, _, hi44, hz44, hs44, hb44, rfl⟩
/-- A row of one's own. -/
def OwnP (t : TypeId) (w : World) (base : Nat) (v : Value) (l : List Pk) : Prop := w.ownsRow base t 3 v l.length (PC l)
theorem owns_keepBut {w w1 : World} {base : Nat} {t : TypeId} {s : Nat} {v : Value} {n : Nat} {cs : List Value} (h : w.ownsRow base t s v n cs) (hb : ∀ k, k < w.heap.size → v.ownBlock = some k → w1.heap[k]? = w.heap[k]?) : w1.ownsRow base t s v n cs := by
  refine ⟨h.1, ?_⟩
  rcases h.2 with ⟨rfl, h0⟩ | ⟨g, cap, cur, rfl, hb', hh, hc, hm, hs, ht⟩
  · exact .inl ⟨rfl, h0⟩
  · exact .inr ⟨g, cap, cur, rfl, hb', (hb g (Array.getElem?_eq_some_iff.1 hh).1 rfl).trans hh, hc, hm, hs, ht⟩
section
variable {t : TypeId} {w w1 : World} {base base' : Nat} {v : Value} {l : List Pk}
theorem OwnP.nil (t : TypeId) (w : World) (base : Nat) : OwnP t w base (.slice none 0 0) [] := World.ownsRow_nil _ _ _ _
theorem OwnP.keepBut (h : OwnP t w base v l) (hb : ∀ k, k < w.heap.size → v.ownBlock = some k → w1.heap[k]? = w.heap[k]?) : OwnP t w1 base v l := owns_keepBut h hb
theorem OwnP.keep (h : OwnP t w base v l) (hb : Below w.heap.size w w1) : OwnP t w1 base v l := owns_keepBut h fun k hk _ => hb.block k hk
theorem OwnP.low (h : OwnP t w base v l) (hb : base' ≤ base) : OwnP t w base' v l := owns_base h hb
theorem OwnP.lt (h : OwnP t w base v l) {b : Nat} (hb : v.ownBlock = some b) : base ≤ b ∧ b < w.heap.size := World.ownsRow.lt h b hb
/-- A slice of them that lies somewhere. -/
structure XP (w : World) (a : Option Addr) (cap : Nat) (l : List Pk) : Prop where
  at' : AtP w a l
  le : l.length ≤ cap
  mx : cap ≤ maxLen
  nil : a = none → cap = 0
theorem XP.keepBut {w w' : World} {a : Option Addr} {cap : Nat} {l : List Pk} (h : XP w a cap l) (hb : ∀ k, k < w.heap.size → blk a k → w'.heap[k]? = w.heap[k]?) : XP w' a cap l := ⟨h.at'.keepBut hb, h.le, h.mx, h.nil⟩
theorem XP.keep {w w' : World} {a : Option Addr} {cap : Nat} {l : List Pk} (h : XP w a cap l) (hb : Below w.heap.size w w') : XP w' a cap l := ⟨h.at'.keep hb, h.le, h.mx, h.nil⟩
theorem XP.emp (w : World) : XP w none 0 [] := ⟨fun j h => by simp at h, by simp, by decide, fun _ => rfl⟩
theorem OwnP.at (h : OwnP t w base v l) : ∃ a cap, v = .slice a l.length cap ∧ XP w a cap l ∧ (∀ k, blk a k → base ≤ k ∧ v.ownBlock = some k ∧ k < w.heap.size) := by
  rcases h.2 with ⟨rfl, h0⟩ | ⟨g, cap, cur, rfl, hb', hh, hc, hm, hs, ht⟩
  · have e : l = [] := List.length_eq_zero_iff.1 h0
    subst e
    exact ⟨_, 0, rfl, XP.emp w, (fun k hk => by obtain ⟨_, _, h⟩ := hk; cases h)⟩
  · refine ⟨some ⟨g, 0, none⟩, cap, rfl, ⟨fun j hj => ⟨g, 0, rfl, ?_⟩, hc, hm, fun h => by cases h⟩, (fun k hk => by obtain ⟨_, _, h⟩ := hk; simp at h; obtain ⟨rfl, _⟩ := h; exact ⟨hb', rfl, (Array.getElem?_eq_some_iff.1 hh).1⟩)⟩
    have hr := PC_get l j hj
    have key : ∀ (i : Nat) (u : Value), (PC l)[i]? = some u → w.cell? ⟨g, 0 + i, none⟩ = some u := fun i u hu => by
      have := World.ownsRow.cells h (g := g) rfl i u hu
      rwa [show ((⟨g, 0, none⟩ : Addr).add i) = ⟨g, 0 + i, none⟩ by unfold Addr.add; split <;> simp_all] at this
    exact ⟨key _ _ hr.1, key _ _ hr.2.1, key _ _ hr.2.2⟩
/-- A text of a row of one's own, set. -/
theorem OwnP.set (h : OwnP t w base v l) (i : Nat) (hi : i < l.length) :
    ∃ g cap, v = .slice (some ⟨g, 0, none⟩) l.length cap ∧ base ≤ g ∧ g < w.heap.size ∧ w.cell? ⟨g, i * 3 + 2, none⟩ = some (.string l[i].s) ∧ w.frozen? ⟨g, i * 3 + 2, none⟩ = false ∧ ∀ s : ByteArray, OwnP t (w.setCell ⟨g, i * 3 + 2, none⟩ (.string s)) base v (l.set i ⟨l[i].a, l[i].b, s⟩) := by
  have hlt := fun b hb => h.lt (b := b) hb
  unfold OwnP at h
  rcases h.2 with ⟨rfl, h0⟩ | ⟨g, cap, cur, hv, hb', hh, hc, hm, hs, ht⟩
  · omega
  · have key : ∀ (i : Nat) (u : Value), (PC l)[i]? = some u → w.cell? ⟨g, i, none⟩ = some u := fun i u hu => by
      have := World.ownsRow.cells h (g := g) (by rw [hv]; rfl) i u hu
      rwa [show ((⟨g, 0, none⟩ : Addr).add i) = ⟨g, i, none⟩ by unfold Addr.add; split <;> simp_all] at this
    refine ⟨g, cap, hv, hb', (hlt g (by rw [hv]; rfl)).2, key _ _ (PC_get l i hi).2.2, frozen_of_row w g _ _ _ hh, fun s => ⟨by rw [PC_len], .inr ⟨g, cap, _, by rw [hv]; simp, hb', heap_setCell_same w g _ _ _ _ hh, by simp; omega, hm, by simp; omega, ?_⟩⟩⟩
    rw [Array.toList_setIfInBounds, List.take_set, List.length_set, ht, PC_set2 l i hi]
end
/-- What has become of a row: nothing else has changed; it lies where it lay, or in new memory. -/
structure Rw (w : World) (v : Value) (w' : World) (v' : Value) : Prop where
  g : w.grownBy w' v.ownBlock
  n : ∀ k, v'.ownBlock = some k → v.ownBlock = some k ∨ w.heap.size ≤ k
theorem Rw.below {B : Nat} {w w1 : World} {v v1 : Value} (h : Rw w v w1 v1) (hv : ∀ k, v.ownBlock = some k → B ≤ k) (hB : B ≤ w.heap.size) : Below B w w1 :=
  ⟨h.g.os, h.g.tape, h.g.output, h.g.size, fun k hk => h.g.block k (by omega) (fun e => by have := hv k e.symm; omega)⟩
/-- Appended to a row of one's own. -/
theorem run_appP {T t : TypeId} (hT : Pt T t) (w : World) (ty : TypeId) (base : Nat) (v : Value) (l s : List Pk) (b off c n : Nat) (hown : OwnP t w base v l) (hs : AtP w (some ⟨b, off, none⟩) s) (hn : n = s.length) (hb : base ≤ w.heap.size) (hl : l.length + s.length ≤ 3000000) :
    ∃ a' c' w', (Builtin.append_ #[T, T] ty #[v, .slice (some ⟨b, off, none⟩) n c]).run Try.prog w = .ok (.slice a' (l.length + s.length) c') w' ∧ OwnP t w' base (.slice a' (l.length + s.length) c') (l ++ s) ∧ Rw w v w' (.slice a' (l.length + s.length) c') := by
  subst hn
  obtain ⟨inf, z, hi, hz, hsz, hby, hzs⟩ := hT.i
  obtain ⟨v', w', hr, h2, h3, _, h5⟩ := run_append_own_at (P := Try.prog) w base T ty t inf z 3 32 hT.u hi hz hsz hby hzs (by decide) v l.length (PC l) hown ⟨b, off, none⟩ s.length c (PC s) (PC_len s) (atP_cells hs) (PC_one s) (by unfold maxLen; omega) (by omega) hb
  have ho : OwnP t w' base v' (l ++ s) := by
    unfold OwnP
    rw [PC_app, List.length_append]
    exact h2
  obtain ⟨a', c', rfl, _, _⟩ := ho.at
  rw [List.length_append] at hr ho h5 h2
  refine ⟨a', c', w', hr, ho, h3, fun k hk => ?_⟩
  rcases h5 with h5 | h5
  · exact .inl (by rw [← h5]; exact hk)
  · rw [h5] at hk
    cases hk
    exact .inr (Nat.le_refl _)
theorem run_append_nil0 {T t : TypeId} (hT : Pt T t) (w : World) (ty : TypeId) (a : Option Addr) (c : Nat) : (Builtin.append_ #[T, T] ty #[.slice none 0 0, .slice a 0 c]).run Try.prog w = .ok (.slice none 0 0) w := by
  obtain ⟨inf, z, hi, hz, hsz, hby, hzs⟩ := hT.i
  cases a with
  | none => simp [Builtin.append_, run_underlying hT.u, sizeOf, typeInfo, hi, Builtin.lenOf, Builtin.firstCells]
  | some ad =>
    have hl := run_loadCells_list (P := Try.prog) w ad [] (by simp)
    simp at hl
    simp [Builtin.append_, run_underlying hT.u, sizeOf, typeInfo, hi, Builtin.lenOf, Builtin.firstCells, hl]
/-- A whole row, copied into new memory. -/
theorem run_copyP {T t : TypeId} (hT : Pt T t) (w : World) (ty : TypeId) (a : Option Addr) (c : Nat) (s : List Pk) (hs : XP w a c s) (hl : s.length ≤ 1000000) :
    ∃ a' c' w', (Builtin.append_ #[T, T] ty #[.slice none 0 0, .slice a s.length c]).run Try.prog w = .ok (.slice a' s.length c') w' ∧ OwnP t w' w.heap.size (.slice a' s.length c') s ∧ Below w.heap.size w w' := by
  cases s with
  | nil => exact ⟨none, 0, w, run_append_nil0 hT w ty a c, OwnP.nil _ _ _, Below.refl _ _⟩
  | cons e r =>
    obtain ⟨b, off, rfl, _⟩ := hs.at' 0 (by simp)
    obtain ⟨a', c', w', h1, h2, h3⟩ := run_appP hT w ty w.heap.size (.slice none 0 0) [] (e :: r) b off c _ (OwnP.nil _ _ _) hs.at' rfl (Nat.le_refl _) (by simp at hl ⊢; omega)
    simp only [List.length_nil, Nat.zero_add, List.nil_append] at h1 h2 h3
    exact ⟨a', c', w', h1, h2, h3.below (fun k hk => by simp [Value.ownBlock] at hk) (Nat.le_refl _)⟩
/-- One, laid for an append. -/
theorem atP_one {w : World} {k : Nat} {t : TypeId} {x y : Int} {s : ByteArray} (h : w.heap[k]? = some (.cells #[.int .i64 x, .int .i64 y, .string s] t (0, 0))) : AtP w (some ⟨k, 0, none⟩) [⟨x, y, s⟩] := by
  intro j hj
  obtain ⟨⟨c0, c1, c2⟩, _⟩ := rw3 h
  have : j = 0 := by simpa using hj
  subst this
  exact ⟨k, 0, rfl, c0, c1, c2⟩
/-- An append whose run is known, at a step of a region that draws its order. -/
theorem step_append_run {P : Program} {w : World} {ops : Array Oper} {o : Oper} {a : Act} {C : Act → World → Prop} {Q : Exit → Act → World → Prop} {E : Prop} (hgd : o.guard = none) (s x : Operand) (t : TypeId)
    (ho : o.op = .call { callee := .builtin .append, args := #[s, x], argTypes := #[t, t] }) (v sv : Value) (hs : a.eval s = v) (hx : a.eval x = sv) (v' : Value) (w' : World)
    (hr : (Builtin.append_ #[t, t] o.type #[v, sv]).run P w = .ok v' w') (h : C (a.put o.dst v') w') : if Region.wanted o (yielded ops a.tmps) = true then Oper.wp P o a w C Q else E := by
  have hw : Region.wanted o (yielded ops a.tmps) = true := by simp [Region.wanted, hgd]
  rw [if_pos hw]
  unfold Oper.wp execOp
  simp only [ho, resolve, invoke, builtin, Sem.run_bind, Sem.run_pure, Result.andThen_ok, List.map_toArray, List.map_cons, List.map_nil, hs, hx, hr]
  exact h
/-- An append whose run is known, in a plain region. -/
theorem wpList_append_known {P : Program} {w : World} {ops : Array Oper} {rest : List Oper} {o : Oper} {a : Act} {Q : Exit → Act → World → Prop} (hgd : o.guard = none) (s x : Operand) (t : TypeId)
    (ho : o.op = .call { callee := .builtin .append, args := #[s, x], argTypes := #[t, t] }) (v sv : Value) (hs : a.eval s = v) (hx : a.eval x = sv) (v' : Value) (w' : World)
    (hr : (Builtin.append_ #[t, t] o.type #[v, sv]).run P w = .ok v' w') (h : wpList P ops Q rest (a.put o.dst v') w') : wpList P ops Q (o :: rest) a w := by
  refine wpList_plain hgd fun K' hK' => ?_
  unfold Oper.wp execOp
  simp only [ho, resolve, invoke, builtin, Sem.run_bind, Sem.run_pure, Result.andThen_ok, List.map_toArray, List.map_cons, List.map_nil, hs, hx, hr]
  exact hK' _ _ h
end Go.Proofs.Ytjbodjjeenjbeaa
