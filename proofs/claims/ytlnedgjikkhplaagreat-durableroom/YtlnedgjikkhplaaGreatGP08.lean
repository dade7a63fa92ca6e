import Derived.Test.YtlnedgjikkhplaaGreatGP07
set_option maxRecDepth 100000
set_option maxHeartbeats 8000000
set_option linter.unusedVariables false
set_option linter.unusedSimpArgs false
namespace Go.Proofs.YtlnedgjikkhplaaGreat.Ns
open Go.RowKit
theorem Hf {p : Prop} (h : p) : Hid p := h
theorem below_drewN {B : Nat} {a w : World} (h : Below B a w) (n : Nat) : Below B a (w.drewN n) := ⟨h.os, h.tape, h.output, h.size, h.block⟩
theorem bel1 (w : World) (o : Obj) : Below w.heap.size w (w.alloc o) := (Below.refl w.heap.size w).alloc Lr o
theorem Bu {B : Nat} {w w1 w2 : World} (h : Below B w w1) (h2 : Below w1.heap.size w1 w2) (hB : B ≤ w.heap.size) : Below B w w2 := h.trans (h2.mono (Nat.le_trans hB h.size))
theorem row2 {w : World} {k : Nat} {v0 v1 : Value} {t : TypeId} (h : w.heap[k]? = some (.cells #[v0, v1] t (0, 0))) :
  (w.cell? ⟨k, 0, none⟩ = some v0 ∧ w.cell? ⟨k, 1, none⟩ = some v1) ∧ ∀ j, w.frozen? ⟨k, j, none⟩ = false :=
 ⟨⟨by rw [cell_of_row w k 0 _ _ _ h]; rfl, by rw [cell_of_row w k 1 _ _ _ h]; rfl⟩, fun j => frozen_of_row w k j _ _ h⟩
theorem row3 {w : World} {k : Nat} {v0 v1 v2 : Value} {t : TypeId} (h : w.heap[k]? = some (.cells #[v0, v1, v2] t (0, 0))) :
  w.cell? ⟨k, 0, none⟩ = some v0 ∧ w.cell? ⟨k, 1, none⟩ = some v1 ∧ w.cell? ⟨k, 2, none⟩ = some v2 :=
 ⟨by rw [cell_of_row w k 0 _ _ _ h]; rfl, by rw [cell_of_row w k 1 _ _ _ h]; rfl, by rw [cell_of_row w k 2 _ _ _ h]; rfl⟩
theorem cell_one (w : World) (B : Nat) (v : Value) (t : TypeId) (h : w.heap[B]? = some (.cells #[v] t (0, 0))) : ∀ (j : Nat) (x : Value), [v][j]? = some x → w.cell? ((⟨B, 0, none⟩ : Addr).add j) = some x := by
 intro j x hx
 have hadd : (⟨B, 0, none⟩ : Addr).add j = ⟨B, j, none⟩ := by unfold Addr.add; split <;> simp_all
 rw [hadd, cell_of_row _ _ j _ _ _ h]
 simpa using hx
def SC (l : List ByteArray) : List Value := l.map Value.string
theorem SC_len (l : List ByteArray) : (SC l).length = l.length := by simp [SC]
theorem SC_get (l : List ByteArray) (j : Nat) (h : j < l.length) : (SC l)[j]? = some (.string l[j]) := by simp [SC, h]
theorem SC_one (l : List ByteArray) : ∀ v ∈ SC l, v.oneCell' = true := by
 intro v h
 simp only [SC, List.mem_map] at h
 obtain ⟨s, _, rfl⟩ := h
 rfl
def blk (a : Option Addr) (k : Nat) : Prop := ∃ off s, a = some ⟨k, off, s⟩
def AtT (w : World) (a : Option Addr) (l : List ByteArray) : Prop :=
 ∀ j (h : j < l.length), ∃ b off, a = some ⟨b, off, none⟩ ∧ w.cell? ⟨b, off + j, none⟩ = some (.string l[j])
theorem AtT.nil (w : World) (a : Option Addr) : AtT w a [] := fun j h => by simp at h
theorem AtT.keepBut {w w' : World} {a : Option Addr} {l : List ByteArray} (h : AtT w a l) (hb : ∀ k, k < w.heap.size → blk a k → w'.heap[k]? = w.heap[k]?) : AtT w' a l := by
 intro j hj
 obtain ⟨b, off, rfl, h0⟩ := h j hj
 have hk := hb b (World.block_lt_of_cell? w _ h0) ⟨off, none, rfl⟩
 exact ⟨b, off, rfl, (World.cell?_of_block (w := w) (a := ⟨b, off + j, none⟩) hk).trans h0⟩
theorem AtT.keep {w w' : World} {a : Option Addr} {l : List ByteArray} (h : AtT w a l) (hb : Below w.heap.size w w') : AtT w' a l := h.keepBut fun k hk _ => hb.block k hk
theorem AtT.drop {w : World} {b off : Nat} {l : List ByteArray} (h : AtT w (some ⟨b, off, none⟩) l) (q : Nat) : AtT w (some ⟨b, off + q, none⟩) (l.drop q) := by
 intro j hj
 simp only [List.length_drop] at hj
 rw [List.getElem_drop]
 obtain ⟨b', off', e, h0⟩ := h (q + j) (by omega)
 cases e
 exact ⟨b, off + q, rfl, by rw [Nat.add_assoc]; exact h0⟩
def OwnT (w : World) (base : Nat) (v : Value) (l : List ByteArray) : Prop := w.ownsRow base 9 1 v l.length (SC l)
theorem OwnT.nil (w : World) (base : Nat) : OwnT w base (.slice none 0 0) [] := World.ownsRow_nil _ _ _ _
theorem OwnT.at {w : World} {base : Nat} {v : Value} {l : List ByteArray} (h : OwnT w base v l) :
  ∃ a cap, v = .slice a l.length cap ∧ AtT w a l ∧ (∀ k, blk a k → base ≤ k ∧ v.ownBlock = some k ∧ k < w.heap.size) ∧ l.length ≤ cap ∧ cap ≤ maxLen ∧ (a = none → cap = 0) := by
 rcases h.2 with ⟨rfl, h0⟩ | ⟨g, cap, cur, rfl, hb', hh, hc, hm, hs, ht⟩
 ·have e : l = [] := List.length_eq_zero_iff.1 h0
  subst e
  exact ⟨none, 0, rfl, (fun j h => by simp at h), (fun k hk => by obtain ⟨_, _, h⟩ := hk; cases h), by simp, by decide, fun _ => rfl⟩
 ·refine ⟨some ⟨g, 0, none⟩, cap, rfl, fun j hj => ⟨g, 0, rfl, ?_⟩, (fun k hk => by obtain ⟨_, _, h⟩ := hk; simp at h; obtain ⟨rfl, _⟩ := h; exact ⟨hb', rfl, (Array.getElem?_eq_some_iff.1 hh).1⟩), hc, hm, fun h => by cases h⟩
  have := World.ownsRow.cells h (g := g) rfl j (.string l[j]) (SC_get l j hj)
  rwa [show ((⟨g, 0, none⟩ : Addr).add j) = ⟨g, 0 + j, none⟩ by unfold Addr.add; split <;> simp_all] at this
structure Rw (w : World) (v : Value) (w' : World) (v' : Value) : Prop where
 g : w.grownBy w' v.ownBlock
 n : ∀ k, v'.ownBlock = some k → v.ownBlock = some k ∨ w.heap.size ≤ k
theorem Rw.refl (w : World) (v : Value) : Rw w v w v := ⟨⟨rfl, rfl, rfl, Nat.le_refl _, fun _ _ _ => rfl⟩, fun k h => .inl h⟩
theorem Rw.trans {w w1 w2 : World} {v v1 v2 : Value} (h : Rw w v w1 v1) (k : Rw w1 v1 w2 v2) : Rw w v w2 v2 := by
 refine ⟨⟨k.g.os.trans h.g.os, k.g.tape.trans h.g.tape, k.g.output.trans h.g.output, Nat.le_trans h.g.size k.g.size, fun b hb hne => ?_⟩, fun b hb => ?_⟩
 ·rw [k.g.block b (Nat.lt_of_lt_of_le hb h.g.size) (fun e => by
   rcases h.n b e.symm with h' | h'
   ·exact hne h'.symm
   ·omega)]
  exact h.g.block b hb hne
 ·rcases k.n b hb with h' | h'
  ·exact h.n b h'
  ·exact .inr (Nat.le_trans h.g.size h')
theorem Rw.ofBelow {w w1 : World} (v : Value) (h : Below w.heap.size w w1) : Rw w v w1 v := ⟨⟨h.os, h.tape, h.output, h.size, fun k hk _ => h.block k hk⟩, fun k h => .inl h⟩
theorem Rw.below {B : Nat} {w w1 : World} {v v1 : Value} (h : Rw w v w1 v1) (hv : ∀ k, v.ownBlock = some k → B ≤ k) (hB : B ≤ w.heap.size) : Below B w w1 :=
 ⟨h.g.os, h.g.tape, h.g.output, h.g.size, fun k hk => h.g.block k (by omega) (fun e => by have := hv k e.symm; omega)⟩
theorem rw_lies {w w3 : World} {v : Value} {g n cp H : Nat} (hgrow : w.grownBy w3 v.ownBlock) (hat : v.ownBlock = some g ∨ g = H) (hH : w.heap.size = H) : Rw w v w3 (.slice (some ⟨g, 0, none⟩) n cp) := by
 refine ⟨hgrow, fun k hk => ?_⟩
 simp only [Value.ownBlock, Option.some.injEq] at hk
 subst hk
 rcases hat with h | h
 ·exact .inl h
 ·exact .inr (by omega)
theorem owns_keepBut {w w1 : World} {base : Nat} {t : TypeId} {s : Nat} {v : Value} {n : Nat} {cs : List Value} (h : w.ownsRow base t s v n cs) (hb : ∀ k, k < w.heap.size → v.ownBlock = some k → w1.heap[k]? = w.heap[k]?) : w1.ownsRow base t s v n cs := by
 refine ⟨h.1, ?_⟩
 rcases h.2 with ⟨rfl, h0⟩ | ⟨g, cap, cur, rfl, hb', hh, hc, hm, hs, ht⟩
 ·exact .inl ⟨rfl, h0⟩
 ·exact .inr ⟨g, cap, cur, rfl, hb', (hb g (Array.getElem?_eq_some_iff.1 hh).1 rfl).trans hh, hc, hm, hs, ht⟩
theorem owns_low {w : World} {base base' : Nat} {t : TypeId} {s : Nat} {v : Value} {n : Nat} {cs : List Value} (h : w.ownsRow base t s v n cs) (hb : base' ≤ base) : w.ownsRow base' t s v n cs := by
 refine ⟨h.1, ?_⟩
 rcases h.2 with ⟨rfl, h0⟩ | ⟨g, cap, cur, rfl, hb', hh, hc, hm, hs, ht⟩
 ·exact .inl ⟨rfl, h0⟩
 ·exact .inr ⟨g, cap, cur, rfl, by omega, hh, hc, hm, hs, ht⟩
theorem OwnT.keep {w w1 : World} {base : Nat} {v : Value} {l : List ByteArray} (h : OwnT w base v l) (hb : Below w.heap.size w w1) : OwnT w1 base v l := owns_keepBut h fun k hk _ => hb.block k hk
theorem OwnT.keepBut {w w1 : World} {base : Nat} {v : Value} {l : List ByteArray} (h : OwnT w base v l) (hb : ∀ k, k < w.heap.size → v.ownBlock = some k → w1.heap[k]? = w.heap[k]?) : OwnT w1 base v l := owns_keepBut h hb
theorem OwnT.low {w : World} {base base' : Nat} {v : Value} {l : List ByteArray} (h : OwnT w base v l) (hb : base' ≤ base) : OwnT w base' v l := owns_low h hb
theorem OwnT.lt {w : World} {base : Nat} {v : Value} {l : List ByteArray} (h : OwnT w base v l) {b : Nat} (hb : v.ownBlock = some b) : base ≤ b ∧ b < w.heap.size := World.ownsRow.lt h b hb
theorem hs9 : Tryz.t9.size = 1 := rfl
theorem hb9 : Tryz.t9.bytes = 16 := rfl
def IC (l : List Int) : List Value := l.map (Value.int .i64)
def BC (l : List Bool) : List Value := l.map Value.bool
theorem IC_len (l : List Int) : (IC l).length = l.length := by simp [IC]
theorem BC_len (l : List Bool) : (BC l).length = l.length := by simp [BC]
theorem BC_one (l : List Bool) : ∀ v ∈ BC l, v.oneCell' = true := by
 intro v h
 simp only [BC, List.mem_map] at h
 obtain ⟨s, _, rfl⟩ := h
 rfl
def AtV (w : World) (a : Option Addr) (cs : List Value) : Prop := ∀ j (h : j < cs.length), ∃ b off, a = some ⟨b, off, none⟩ ∧ w.cell? ⟨b, off + j, none⟩ = some cs[j]
theorem AtV.nil (w : World) (a : Option Addr) : AtV w a [] := fun j h => by simp at h
theorem AtV.keepBut {w w' : World} {a : Option Addr} {cs : List Value} (h : AtV w a cs) (hb : ∀ k, k < w.heap.size → blk a k → w'.heap[k]? = w.heap[k]?) : AtV w' a cs := by
 intro j hj
 obtain ⟨b, off, rfl, h0⟩ := h j hj
 have hk := hb b (World.block_lt_of_cell? w _ h0) ⟨off, none, rfl⟩
 exact ⟨b, off, rfl, (World.cell?_of_block (w := w) (a := ⟨b, off + j, none⟩) hk).trans h0⟩
theorem AtV.keep {w w' : World} {a : Option Addr} {cs : List Value} (h : AtV w a cs) (hb : Below w.heap.size w w') : AtV w' a cs := h.keepBut fun k hk _ => hb.block k hk
theorem AtV.int {w : World} {a : Option Addr} {l : List Int} (h : AtV w a (IC l)) (j : Nat) (hj : j < l.length) : ∃ b off, a = some ⟨b, off, none⟩ ∧ w.cell? ⟨b, off + j, none⟩ = some (.int .i64 l[j]) := by
 obtain ⟨b, off, e, h0⟩ := h j (by rw [IC_len]; exact hj)
 exact ⟨b, off, e, by simpa [IC] using h0⟩
theorem AtV.bool {w : World} {a : Option Addr} {l : List Bool} (h : AtV w a (BC l)) (j : Nat) (hj : j < l.length) : ∃ b off, a = some ⟨b, off, none⟩ ∧ w.cell? ⟨b, off + j, none⟩ = some (.bool l[j]) := by
 obtain ⟨b, off, e, h0⟩ := h j (by rw [BC_len]; exact hj)
 exact ⟨b, off, e, by simpa [BC] using h0⟩
theorem AtV.str {w : World} {a : Option Addr} {l : List ByteArray} (h : AtV w a (SC l)) (j : Nat) (hj : j < l.length) : ∃ b off, a = some ⟨b, off, none⟩ ∧ w.cell? ⟨b, off + j, none⟩ = some (.string l[j]) := by
 obtain ⟨b, off, e, h0⟩ := h j (by rw [SC_len]; exact hj)
 exact ⟨b, off, e, by simpa [SC] using h0⟩
theorem add_none (b off j : Nat) : ((⟨b, off, none⟩ : Addr).add j) = ⟨b, off + j, none⟩ := by unfold Addr.add; split <;> simp_all
theorem atV_cells {w : World} {b off : Nat} {cs : List Value} (h : AtV w (some ⟨b, off, none⟩) cs) : ∀ j u, cs[j]? = some u → w.cell? ((⟨b, off, none⟩ : Addr).add j) = some u := by
 intro j u hu
 obtain ⟨hj, e⟩ := List.getElem?_eq_some_iff.1 hu
 obtain ⟨b', off', e', hc⟩ := h j hj
 cases e'
 rw [add_none, hc, e]
theorem owns_at {w : World} {base : Nat} {t : TypeId} {v : Value} {n : Nat} {cs : List Value} (h : w.ownsRow base t 1 v n cs) :
  ∃ a cap, v = .slice a n cap ∧ AtV w a cs ∧ (∀ k, blk a k → base ≤ k ∧ v.ownBlock = some k ∧ k < w.heap.size) ∧ n ≤ cap ∧ cap ≤ maxLen ∧ (a = none → cap = 0) ∧ (∀ ad, a = some ad → ad.spot = none) := by
 have hn : cs.length = n := by have := h.1; omega
 rcases h.2 with ⟨rfl, h0⟩ | ⟨g, cap, cur, rfl, hb', hh, hc, hm, hs, ht⟩
 ·have e : cs = [] := List.length_eq_zero_iff.1 (by omega)
  subst e; subst h0
  exact ⟨none, 0, rfl, AtV.nil _ _, (fun k hk => by obtain ⟨_, _, h⟩ := hk; cases h), by simp, by decide, (fun _ => rfl), fun ad h => by cases h⟩
 ·refine ⟨some ⟨g, 0, none⟩, cap, rfl, fun j hj => ⟨g, 0, rfl, ?_⟩, (fun k hk => by obtain ⟨_, _, h⟩ := hk; simp at h; obtain ⟨rfl, _⟩ := h; exact ⟨hb', rfl, (Array.getElem?_eq_some_iff.1 hh).1⟩), hc, hm, (fun h => by cases h), fun ad h => by cases h; rfl⟩
  have := World.ownsRow.cells h (g := g) rfl j cs[j] (List.getElem?_eq_getElem hj)
  rwa [add_none] at this
theorem owns_keep {w w1 : World} {base : Nat} {t : TypeId} {s : Nat} {v : Value} {n : Nat} {cs : List Value} (h : w.ownsRow base t s v n cs) (hb : Below w.heap.size w w1) : w1.ownsRow base t s v n cs := owns_keepBut h fun k hk _ => hb.block k hk
theorem Tryz.info3 : (Tryz.prog.info? 3).map (fun i => (i.zero, i.size, i.bytes)) = some (some (.int .i64 0), 1, 8) := by kernel_rfl
theorem Tryz.info4 : (Tryz.prog.info? 4).map (fun i => (i.zero, i.size, i.bytes)) = some (some (.bool false), 1, 1) := by kernel_rfl
theorem run_app_int (w : World) (base : Nat) (v : Value) (l : List Int) (x : Int) (B c : Nat) (ty : TypeId) (h : w.ownsRow base 3 1 v l.length (IC l)) (hs : w.heap[B]? = some (.cells #[.int .i64 x] 3 (0, 0))) (hl : l.length ≤ 100000) (hb : base ≤ w.heap.size) :
  ∃ g cap w', (Builtin.append_ #[82, 82] ty #[v, .slice (some ⟨B, 0, none⟩) 1 c]).run Tryz.prog w = .ok (.slice (some ⟨g, 0, none⟩) (l.length + 1) cap) w' ∧ w'.ownsRow base 3 1 (.slice (some ⟨g, 0, none⟩) (l.length + 1) cap) (l ++ [x]).length (IC (l ++ [x])) ∧ Rw w v w' (.slice (some ⟨g, 0, none⟩) (l.length + 1) cap) := by
 obtain ⟨i0, hi, hz0, hz1, hz2⟩ := info_parts Tryz.info3
 obtain ⟨g, cap, w', hr, h2, h3, h4, h5⟩ := run_append_lies (P := Tryz.prog) w 82 ty base 3 i0 _ 1 8 Tryz.underlying82 hi hz0 hz1 hz2 rfl (by decide) v l.length (IC l) h ⟨B, 0, none⟩ 1 c [.int .i64 x] rfl (cell_one w B _ 3 hs) (by simp; rfl) (by decide) (by unfold maxLen; omega) (by omega) hb _ rfl
 refine ⟨g, cap, w', hr, ?_, rw_lies h3 h4 rfl⟩
 rw [List.length_append, show IC (l ++ [x]) = IC l ++ [.int .i64 x] by simp [IC]]
 exact h2
def PC : List M.Pl → List Value
 | [] => []
 | p :: r => .string p.1 :: .string p.2 :: PC r
theorem PC_len (P : List M.Pl) : (PC P).length = P.length * 2 := by
 induction P with
 | nil => rfl
 | cons p r ih => simp only [PC, List.length_cons, ih]; omega
theorem PC_get (P : List M.Pl) (i : Nat) (h : i < P.length) : (PC P)[i * 2]? = some (.string P[i].1) ∧ (PC P)[i * 2 + 1]? = some (.string P[i].2) := by
 induction P generalizing i with
 | nil => simp at h
 | cons p r ih =>
  cases i with
  | zero => exact ⟨rfl, rfl⟩
  | succ i =>
   have := ih i (by simpa using h)
   rw [show (i + 1) * 2 = i * 2 + 1 + 1 by omega]
   simpa [PC] using this
theorem PC_set (P : List M.Pl) (i : Nat) (h : i < P.length) (s : ByteArray) : (PC P).set (i * 2) (.string s) = PC (P.set i (s, P[i].2)) ∧ (PC P).set (i * 2 + 1) (.string s) = PC (P.set i (P[i].1, s)) := by
 induction P generalizing i with
 | nil => simp at h
 | cons p r ih =>
  cases i with
  | zero => exact ⟨rfl, rfl⟩
  | succ i =>
   obtain ⟨h1, h2⟩ := ih i (by simpa using h)
   rw [show (i + 1) * 2 = i * 2 + 1 + 1 by omega]
   simp only [PC, List.set_cons_succ, List.getElem_cons_succ, h1, h2, and_self]
theorem PC_app (P Q : List M.Pl) : PC (P ++ Q) = PC P ++ PC Q := by
 induction P with
 | nil => rfl
 | cons p r ih => simp [PC, ih]
def PR (w : World) (g : Nat) (P : List M.Pl) : Prop := w.heap[g]? = some (.cells (PC P).toArray 81 (0, 0))
theorem PR.lt {w : World} {g : Nat} {P : List M.Pl} (h : PR w g P) : g < w.heap.size := (Array.getElem?_eq_some_iff.1 h).1
theorem PR.c {w : World} {g : Nat} {P : List M.Pl} (h : PR w g P) (i : Nat) (hi : i < P.length) : w.cell? ⟨g, i * 2, none⟩ = some (.string P[i].1) ∧ w.cell? ⟨g, i * 2 + 1, none⟩ = some (.string P[i].2) := by
 obtain ⟨h1, h2⟩ := PC_get P i hi
 rw [cell_of_row w g (i * 2) _ _ _ h, cell_of_row w g (i * 2 + 1) _ _ _ h]
 simpa using ⟨h1, h2⟩
theorem PR.free {w : World} {g : Nat} {P : List M.Pl} (h : PR w g P) (j : Nat) : w.frozen? ⟨g, j, none⟩ = false := frozen_of_row w g j _ _ h
theorem PR.set0 {w : World} {g : Nat} {P : List M.Pl} (h : PR w g P) (i : Nat) (hi : i < P.length) (s : ByteArray) : PR (w.setCell ⟨g, i * 2, none⟩ (.string s)) g (P.set i (s, P[i].2)) := by
 unfold PR; rw [heap_setCell_same w g (i * 2) _ _ _ h, ← (PC_set P i hi s).1]
 simp
theorem PR.set1 {w : World} {g : Nat} {P : List M.Pl} (h : PR w g P) (i : Nat) (hi : i < P.length) (s : ByteArray) : PR (w.setCell ⟨g, i * 2 + 1, none⟩ (.string s)) g (P.set i (P[i].1, s)) := by
 unfold PR; rw [heap_setCell_same w g (i * 2 + 1) _ _ _ h, ← (PC_set P i hi s).2]
 simp
theorem PR.keepBut {w w' : World} {g : Nat} {P : List M.Pl} (h : PR w g P) (hb : w'.heap[g]? = w.heap[g]?) : PR w' g P := hb.trans h
theorem row4 {w : World} {k : Nat} {v0 v1 v2 v3 : Value} {t : TypeId} (h : w.heap[k]? = some (.cells #[v0, v1, v2, v3] t (0, 0))) :
  (w.cell? ⟨k, 0, none⟩ = some v0 ∧ w.cell? ⟨k, 1, none⟩ = some v1 ∧ w.cell? ⟨k, 2, none⟩ = some v2 ∧ w.cell? ⟨k, 3, none⟩ = some v3) ∧ ∀ j, w.frozen? ⟨k, j, none⟩ = false :=
 ⟨⟨by rw [cell_of_row w k 0 _ _ _ h]; rfl, by rw [cell_of_row w k 1 _ _ _ h]; rfl, by rw [cell_of_row w k 2 _ _ _ h]; rfl, by rw [cell_of_row w k 3 _ _ _ h]; rfl⟩, fun j => frozen_of_row w k j _ _ h⟩
def fp (b g : Nat) (vl : Value) (k : Nat) : Prop := k = b ∨ k = g ∨ vl.ownBlock = some k
structure DI (w : World) (base b g : Nat) (vl : Value) (n : Nat) (P : List M.Pl) (ls : List Nat) : Prop where
 row : w.heap[b]? = some (.cells #[.int .i64 n, .slice (some ⟨g, 0, none⟩) n n, vl, .bool false] 84 (0, 0))
 pl : PR w g P
 len : P.length = n
 n1 : 1 ≤ n ∧ n ≤ 4096
 ok : M.Ok P
 own : w.ownsRow base 3 1 vl (M.zs ls).length (IC (M.zs ls))
 lo : M.Lo P ls
 ne : b ≠ g ∧ vl.ownBlock ≠ some b ∧ vl.ownBlock ≠ some g
 low : base ≤ b ∧ base ≤ g
theorem DI.lt {w : World} {base b g : Nat} {vl : Value} {n : Nat} {P : List M.Pl} {ls : List Nat} (h : DI w base b g vl n P ls) : b < w.heap.size := (Array.getElem?_eq_some_iff.1 h.row).1
theorem DI.mine {w : World} {base b g : Nat} {vl : Value} {n : Nat} {P : List M.Pl} {ls : List Nat} (h : DI w base b g vl n P ls) : ∀ k, fp b g vl k → base ≤ k ∧ k < w.heap.size := by
 rintro k (rfl | rfl | e)
 ·exact ⟨h.low.1, h.lt⟩
 ·exact ⟨h.low.2, h.pl.lt⟩
 ·exact World.ownsRow.lt h.own k e
theorem DI.keepBut {w w' : World} {base b g : Nat} {vl : Value} {n : Nat} {P : List M.Pl} {ls : List Nat} (h : DI w base b g vl n P ls) (hb : ∀ k, k < w.heap.size → YtlnedgjikkhplaaGreat.Ns.fp b g vl k → w'.heap[k]? = w.heap[k]?) : DI w' base b g vl n P ls :=
 ⟨(hb b h.lt (.inl rfl)).trans h.row, (hb g h.pl.lt (.inr (.inl rfl))).trans h.pl, h.len, h.n1, h.ok, owns_keepBut h.own (fun k hk e => hb k hk (.inr (.inr e))), h.lo, h.ne, h.low⟩
theorem DI.keep {w w' : World} {base b g : Nat} {vl : Value} {n : Nat} {P : List M.Pl} {ls : List Nat} (h : DI w base b g vl n P ls) (hb : Below w.heap.size w w') : DI w' base b g vl n P ls := h.keepBut fun k hk _ => hb.block k hk
theorem DI.lsn {w : World} {base b g : Nat} {vl : Value} {n : Nat} {P : List M.Pl} {ls : List Nat} (h : DI w base b g vl n P ls) : ls.length ≤ 4096 := by
 have h1 := h.lo.len
 have h2 := h.len
 have h3 := h.n1
 omega
structure Ch (w : World) (F : Nat → Prop) (w' : World) (G : Nat → Prop) : Prop where
 os : w'.os = w.os
 tape : w'.tape = w.tape
 output : w'.output = w.output
 size : w.heap.size ≤ w'.heap.size
 block : ∀ k, k < w.heap.size → ¬ F k → w'.heap[k]? = w.heap[k]?
 n : ∀ k, G k → F k ∨ w.heap.size ≤ k
theorem Ch.refl (w : World) (F : Nat → Prop) : Ch w F w F := ⟨rfl, rfl, rfl, Nat.le_refl _, fun _ _ _ => rfl, fun k h => .inl h⟩
theorem Ch.ofBelow {w w1 : World} {F : Nat → Prop} (h : Below w.heap.size w w1) : Ch w F w1 F := ⟨h.os, h.tape, h.output, h.size, fun k hk _ => h.block k hk, fun k h => .inl h⟩
theorem Ch.trans {w w1 w2 : World} {F G H : Nat → Prop} (h : Ch w F w1 G) (k : Ch w1 G w2 H) : Ch w F w2 H := by
 refine ⟨k.os.trans h.os, k.tape.trans h.tape, k.output.trans h.output, Nat.le_trans h.size k.size, fun c hc hF => ?_, fun c hc => ?_⟩
 ·rw [k.block c (Nat.lt_of_lt_of_le hc h.size) (fun e => by
   rcases h.n c e with h' | h'
   ·exact hF h'
   ·omega)]
  exact h.block c hc hF
 ·rcases k.n c hc with h' | h'
  ·exact h.n c h'
  ·exact .inr (Nat.le_trans h.size h')
theorem Ch.below {B : Nat} {w w1 : World} {F G : Nat → Prop} (h : Ch w F w1 G) (hF : ∀ k, F k → B ≤ k) (hB : B ≤ w.heap.size) : Below B w w1 :=
 ⟨h.os, h.tape, h.output, h.size, fun k hk => h.block k (by omega) (fun e => by have := hF k e; omega)⟩
theorem Ch.cell {w : World} {F : Nat → Prop} (k j : Nat) (v : Value) (hk : F k) : Ch w F (w.setCell ⟨k, j, none⟩ v) F :=
 ⟨rfl, rfl, rfl, by simp, fun c _ hc => heap_setCell_other w ⟨k, j, none⟩ c v (fun e => hc (by rw [e]; exact hk)), fun c h => .inl h⟩
theorem refused_any (b : Nat) (n : Nat) (v1 v2 : Value) (lost : Bool) (at' m : Int) (w : World) (h : w.heap[b]? = some (.cells #[.int .i64 n, v1, v2, .bool lost] 84 (0, 0))) (hn : n ≤ 4096) (hm : m ≤ 9223372036854775807) :
  Calls Tryz.prog 84 #[.pointer (some ⟨b, 0, none⟩), .int .i64 at', .int .i64 m] w fun e w' => e = .returned (.int .i64 (M.refused n lost at' m)) ∧ w' = w := by
 obtain ⟨⟨c0, _, _, c3⟩, _⟩ := row4 h
 clear h; unfold M.refused
 cases h1 : decide (at' < 0) with
 | true =>
  go_enter Tryz.func84, Tryz.ntmps84
  go_wp2
  go_ret
  exact ⟨rfl, rfl⟩
 | false =>
  cases h2 : decide (m < 1) with
  | true =>
   go_enter Tryz.func84, Tryz.ntmps84
   go_wp2
   go_ret
   exact ⟨rfl, rfl⟩
  | false =>
   have hm1 : 1 ≤ m := by simpa using h2
   have hwr : IntKind.i64.wrap ((n : Int) - m) = (n : Int) - m := by rw [IntKind.wrap_i64]; omega
   cases h3 : decide (at' > (n : Int) - m) with
   | true =>
    have h3' : decide ((n : Int) - m < at') = true := h3
    go_enter Tryz.func84, Tryz.ntmps84
    go_wp2
    go_ret
    exact ⟨rfl, rfl⟩
   | false =>
    have h3' : decide ((n : Int) - m < at') = false := h3
    cases lost with
    | true =>
     go_enter Tryz.func84, Tryz.ntmps84
     go_wp2
     go_ret
     exact ⟨rfl, rfl⟩
    | false =>
     go_enter Tryz.func84, Tryz.ntmps84
     go_wp2
     go_ret
     exact ⟨rfl, rfl⟩
end Go.Proofs.YtlnedgjikkhplaaGreat.Ns
