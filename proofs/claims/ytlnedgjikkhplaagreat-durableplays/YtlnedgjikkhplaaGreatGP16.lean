import Derived.Test.YtlnedgjikkhplaaGreatGP15
set_option maxRecDepth 100000
set_option maxHeartbeats 8000000
set_option linter.unusedVariables false
set_option linter.unusedSimpArgs false
namespace Go.Proofs.YtlnedgjikkhplaaGreat.Nc
open Go.RowKit
theorem below_drewN {B : Nat} {a w : World} (h : Below B a w) (n : Nat) : Below B a (w.drewN n) := ⟨h.os, h.tape, h.output, h.size, h.block⟩
def At {α : Type} (w : World) (a : Option Addr) (f : α → Value) (l : List α) : Prop :=
 ∀ j (h : j < l.length), ∃ b off, a = some ⟨b, off, none⟩ ∧ w.cell? ⟨b, off + j, none⟩ = some (f l[j])
theorem At.keep {α : Type} {w w' : World} {a : Option Addr} {f : α → Value} {l : List α} (h : At w a f l) (hb : Below w.heap.size w w') : At w' a f l := by
 intro j hj
 obtain ⟨b, off, rfl, hc⟩ := h j hj
 exact ⟨b, off, rfl, (hb.cell (p := ⟨b, off + j, none⟩) (World.block_lt_of_cell? w _ hc)).trans hc⟩
def blk (a : Option Addr) (k : Nat) : Prop := ∃ off s, a = some ⟨k, off, s⟩
theorem At.keepBut {α : Type} {w w' : World} {a : Option Addr} {f : α → Value} {l : List α} (h : At w a f l) (hb : ∀ k, k < w.heap.size → blk a k → w'.heap[k]? = w.heap[k]?) : At w' a f l := by
 intro j hj
 obtain ⟨b, off, rfl, hc⟩ := h j hj
 have hlt := World.block_lt_of_cell? w _ hc
 exact ⟨b, off, rfl, (World.cell?_of_block (w := w) (a := ⟨b, off + j, none⟩) (hb b hlt ⟨off, none, rfl⟩)).trans hc⟩
theorem owns_at {α : Type} {w : World} {base : Nat} {e : TypeId} {v : Value} {f : α → Value} {l : List α} (h : w.ownsRow base e 1 v l.length (l.map f)) :
  ∃ a cap, v = .slice a l.length cap ∧ At w a f l ∧ ∀ k, blk a k → base ≤ k := by
 rcases h.2 with ⟨rfl, h0⟩ | ⟨g, cap, cur, rfl, hb', hh, hc, hm, hs, ht⟩
 ·have e : l = [] := List.length_eq_zero_iff.1 h0
  subst e
  exact ⟨none, 0, rfl, fun j h => by simp at h, fun k ⟨_, _, h⟩ => by cases h⟩
 ·refine ⟨some ⟨g, 0, none⟩, cap, rfl, fun j hj => ⟨g, 0, rfl, ?_⟩, fun k ⟨_, _, h⟩ => by simp at h; omega⟩
  rw [Nat.zero_add]
  have := h.cells (g := g) rfl j (f l[j]) (by simp [hj])
  rwa [show ((⟨g, 0, none⟩ : Addr).add j) = ⟨g, j, none⟩ by unfold Addr.add; split <;> simp_all] at this
def NewR (w : World) (l : List UInt8) (x : Ending) (w' : World) : Prop :=
 ∃ b, x = .returned (.pointer (some ⟨b, 0, none⟩)) ∧ w.heap.size ≤ b ∧ RS w' b (some l) ∧ Below w.heap.size w w'
theorem newReader_any (l : List UInt8) (w : World) (hl : l.length ≤ 140737488351232) : Calls Tryz.prog 89 #[.string (ofL l)] w (NewR w l) := by
 go_enter Tryz.func89, Tryz.ntmps89
 go_wp2_with fail
 refine (clone_any _ w (by rw [ofL_size]; exact hl)).mono ?_; rintro e w1 ⟨rfl, hb1⟩
 go_wp2
 go_ret
 exact ⟨w1.heap.size, rfl, hb1.size, heap_alloc_new w1 _, hb1.alloc hb1.size _⟩
def rdone (st : Option (List UInt8)) : Int := match st with | some [] => 0 | _ => 3
theorem rdone_any (b : Nat) (st : Option (List UInt8)) (w : World) (hr : RS w b st) (hl : (lft st).length ≤ 140737488351232) :
  Calls Tryz.prog 174 #[.pointer (some ⟨b, 0, none⟩)] w fun e w' => e = .returned (.int .i64 (rdone st)) ∧ w' = w := by
 have c1 := hr.c1
 go_enter Tryz.func174, Tryz.ntmps174
 go_wp2_with fail
 refine (left_any b (lft st) (ee st) w hr).mono ?_; rintro e w1 ⟨rfl, rfl⟩
 cases st with
 | none =>
  simp only [lft, ee, Option.getD_none, List.length_nil, Option.isSome_none, Bool.false_eq_true, if_false] at c1 ⊢
  go_wp2
  go_ret
  exact ⟨rfl, rfl⟩
 | some l =>
  simp only [lft, ee, Option.getD_some, Option.isSome_some, if_true] at c1 ⊢
  cases l with
  | nil =>
   simp only [List.length_nil]
   go_wp2
   go_ret
   exact ⟨rfl, rfl⟩
  | cons c r =>
   have hn : 0 < (c :: r).length := by simp
   generalize (c :: r).length = n at hn
   go_wp2
   go_ret
   exact ⟨rfl, rfl⟩
theorem rleft_any (b : Nat) (st : Option (List UInt8)) (w : World) (hr : RS w b st) :
  Calls Tryz.prog 91 #[.pointer (some ⟨b, 0, none⟩)] w fun x w' => x = .returned (.int .i64 (lft st).length) ∧ w' = w := left_any b (lft st) (ee st) w hr
def vals (l : List UInt8) : List Value := l.map fun b => Value.int .u8 (b.toNat : Int)
theorem vals_app (a b : List UInt8) : vals a ++ vals b = vals (a ++ b) := by simp [vals]
theorem strCells_vals (s : List UInt8) : Lib.strCells (ofL s) = vals s := by simp [Lib.strCells, vals, ofL]
theorem owns_convert {w : World} {base n : Nat} {v : Value} {l : List UInt8} (h : w.ownsRow base 5 1 v n (vals l)) (hn : l.length = n) : (Go.convert 138 9 v).run Tryz.prog w = .ok (.string (ofL l)) w := by
 rcases h.2 with ⟨rfl, h0⟩ | ⟨g, cap, cur, rfl, hb, hh, hc, hm, hs, ht⟩
 ·have hl : l = [] := List.length_eq_zero_iff.1 (by omega)
  subst hl
  exact run_convert_bytes_nil (P := Tryz.prog) w 138 5 Tryz.underlying138 Tryz.underlying5 0 0 9 Tryz.underlying9
 ·subst hn
  refine run_convert_bytes_back w 138 9 5 ⟨g, 0, none⟩ cap l Tryz.underlying138 Tryz.underlying5 Tryz.underlying9 fun j hj => ?_
  exact h.cells (g := g) rfl j (.int .u8 (l[j].toNat : Int)) (by simp [vals, hj])
theorem blk_own {a : Option Addr} {n c k : Nat} : (Value.slice a n c).ownBlock = some k ↔ blk a k := by
 cases a with
 | none => simp [Value.ownBlock, blk]
 | some ad =>
  obtain ⟨b, off, s⟩ := ad
  simp [Value.ownBlock, blk]
theorem lies_string {w : World} {base : Nat} {ty : TypeId} {i : TypeInfo} (hi : Tryz.prog.info? 5 = some i) (hz : i.zero = some (.int .u8 0)) (hsize : i.size = 1) (hby : i.bytes = 1)
  {v : Value} {n : Nat} {xs : List Value} (hown : w.ownsRow base 5 1 v n xs) (s : ByteArray) (h63 : n + s.size ≤ maxLen) (hbytes : n + s.size ≤ 140737488355328)
  {v' : Value} {w' : World} (hr : (Builtin.append_ #[138, 9] ty #[v, .string s]).run Tryz.prog w = .ok v' w') : v'.ownBlock = v.ownBlock ∨ v'.ownBlock = some w.heap.size := by
 have hsmall : n + s.size ≤ 9223372036854775807 := by simp only [maxLen] at h63; omega
 have hxl : xs.length = n := by simpa using hown.1
 rcases hown.2 with ⟨rfl, rfl⟩ | ⟨g, cap, cur, rfl, hbg, hg, hnc, hcm, hcs, htake⟩
 ·by_cases hm : s.size = 0
  ·have hf := Lib.run_firstCells_string (P := Tryz.prog) w 1 s
   rw [hm] at hf
   have e : (Builtin.append_ #[138, 9] ty #[.slice none 0 0, .string s]).run Tryz.prog w = .ok (.slice none 0 0) w := by
    simp [Builtin.append_, run_underlying Tryz.underlying138, run_underlying Tryz.underlying9, sizeOf, typeInfo, hi, hsize, Builtin.lenOf, hm, hf]
   rw [e] at hr
   simp only [Result.ok.injEq] at hr
   obtain ⟨rfl, rfl⟩ := hr
   exact .inl rfl
  ·have e := run_append_nil_string (P := Tryz.prog) w 138 9 ty 5 i (.int .u8 0) Tryz.underlying138 Tryz.underlying9 hi hz s (by omega) (by omega) (by rw [hby]; omega)
   rw [e] at hr
   simp only [Result.ok.injEq] at hr
   obtain ⟨rfl, rfl⟩ := hr
   exact .inr rfl
 ·by_cases hroom : n + s.size ≤ cap
  ·have hcs' : cur.size = cap := by simpa using hcs
   have e := Lib.run_append_room_string (P := Tryz.prog) w 138 9 ty 5 i Tryz.underlying138 Tryz.underlying9 hi hsize g n cap cur hg s hroom (by omega)
   rw [e] at hr
   simp only [Result.ok.injEq] at hr
   obtain ⟨rfl, rfl⟩ := hr
   exact .inl rfl
  ·have holds : ∀ j u, xs[j]? = some u → w.cell? ((⟨g, 0, none⟩ : Addr).add j) = some u := hown.cells (g := g) rfl
   have e := Lib.run_append_grow_string (P := Tryz.prog) w 138 9 ty 5 i (.int .u8 0) Tryz.underlying138 Tryz.underlying9 hi hz ⟨g, 0, none⟩ n cap xs (by rw [hsize]; simpa using hxl) holds s (by omega) (by omega) (by rw [hby]; exact growslice_fits (by omega) (by omega))
   rw [e] at hr
   simp only [Result.ok.injEq] at hr
   obtain ⟨rfl, rfl⟩ := hr
   exact .inr rfl
theorem wpList_append_str (w : World) {ops : Array Oper} {rest : List Oper} {o : Oper} {a : Act} {Q : Exit → Act → World → Prop} (hgd : o.guard = none) (sl x : Operand)
  (ho : o.op = .call { callee := .builtin .append, args := #[sl, x], argTypes := #[138, 9] })
  (base : Nat) (v : Value) (n : Nat) (xs : List Value) (hs : a.eval sl = v) (hown : w.ownsRow base 5 1 v n xs) (s : ByteArray) (hx : a.eval x = .string s) (hbytes : n + s.size ≤ 140737488355328) (hbase : base ≤ w.heap.size)
  (h : ∀ a' cap' w', w'.ownsRow base 5 1 (.slice a' (n + s.size) cap') (n + s.size) (xs ++ Lib.strCells s) → w.grownBy w' v.ownBlock → (∀ k, blk a' k → v.ownBlock = some k ∨ k = w.heap.size) → wpList Tryz.prog ops Q rest (a.put o.dst (.slice a' (n + s.size) cap')) w') :
  wpList Tryz.prog ops Q (o :: rest) a w := by
 obtain ⟨i, hi, hz0, hz1, hz2⟩ := info_parts Tryz.info5
 refine wpList_plain hgd fun K hK => ?_
 have h63 : n + s.size ≤ maxLen := by unfold maxLen; omega
 obtain ⟨v', w', hr, h2, h3, h4⟩ := Lib.run_append_own_string (P := Tryz.prog) w base 138 9 o.type 5 i Tryz.underlying138 Tryz.underlying9 hi hz0 hz1 hz2 v n xs hown s h63 hbytes hbase
 have hl := lies_string hi hz0 hz1 hz2 hown s h63 hbytes hr
 unfold Oper.wp execOp
 simp only [ho, resolve, invoke, builtin, Sem.run_bind, Sem.run_pure, Result.andThen_ok, List.map_toArray, List.map_cons, List.map_nil, hs, hx, hr]
 obtain ⟨a', cap', rfl⟩ : ∃ a' cap', v' = .slice a' (n + s.size) cap' := by
  rcases h2.2 with ⟨rfl, h0⟩ | ⟨g, cap, cur, rfl, _⟩
  ·exact ⟨none, 0, by rw [h0]⟩
  ·exact ⟨_, _, rfl⟩
 refine hK _ _ (h a' cap' w' h2 h3 fun k hk => ?_)
 have hk' : (Value.slice a' (n + s.size) cap').ownBlock = some k := blk_own.2 hk
 rcases hl with e | e
 ·exact .inl (e.symm.trans hk')
 ·exact .inr (by rw [hk'] at e; simpa using e)
structure WS (w : World) (b : Nat) (a : Option Addr) (cap m : Nat) (st : Nat × List UInt8) : Prop where
 row : w.heap[b]? = some (.cells #[.int .i64 m, .slice a st.2.length cap, .int .i64 st.1] 234 (0, 0))
 own : w.ownsRow (b + 1) 5 1 (.slice a st.2.length cap) st.2.length (vals st.2)
 fit : M.Fit m st
 le : m ≤ 65536
theorem WS.lt {w : World} {b : Nat} {a : Option Addr} {cap m : Nat} {st : Nat × List UInt8} (h : WS w b a cap m st) : b < w.heap.size := by
 rcases Nat.lt_or_ge b w.heap.size with h' | h'
 ·exact h'
 ·have := h.row; rw [Array.getElem?_eq_none h'] at this; cases this
theorem WS.c0 {w : World} {b : Nat} {a : Option Addr} {cap m : Nat} {st : Nat × List UInt8} (h : WS w b a cap m st) : w.cell? ⟨b, 0, none⟩ = some (.int .i64 m) := by rw [cell_of_row w b 0 _ _ _ h.row]; rfl
theorem WS.c1 {w : World} {b : Nat} {a : Option Addr} {cap m : Nat} {st : Nat × List UInt8} (h : WS w b a cap m st) : w.cell? ⟨b, 1, none⟩ = some (.slice a st.2.length cap) := by rw [cell_of_row w b 1 _ _ _ h.row]; rfl
theorem WS.c2 {w : World} {b : Nat} {a : Option Addr} {cap m : Nat} {st : Nat × List UInt8} (h : WS w b a cap m st) : w.cell? ⟨b, 2, none⟩ = some (.int .i64 st.1) := by rw [cell_of_row w b 2 _ _ _ h.row]; rfl
theorem WS.free {w : World} {b : Nat} {a : Option Addr} {cap m : Nat} {st : Nat × List UInt8} (h : WS w b a cap m st) (j : Nat) : w.frozen? ⟨b, j, none⟩ = false := frozen_of_row w b j _ _ h.row
theorem WS.inb {w : World} {b : Nat} {a : Option Addr} {cap m : Nat} {st : Nat × List UInt8} (h : WS w b a cap m st) (k : Nat) (hk : blk a k) : b < k ∧ k < w.heap.size := by
 have := h.own.lt k (blk_own.2 hk)
 omega
theorem WS.drewN {w : World} {b : Nat} {a : Option Addr} {cap m : Nat} {st : Nat × List UInt8} (h : WS w b a cap m st) (n : Nat) : WS (w.drewN n) b a cap m st := ⟨h.row, h.own, h.fit, h.le⟩
structure Step (b : Nat) (w : World) (a : Option Addr) (w' : World) (a' : Option Addr) : Prop where
 os : w'.os = w.os
 tape : w'.tape = w.tape
 output : w'.output = w.output
 size : w.heap.size ≤ w'.heap.size
 block : ∀ k, k < w.heap.size → k ≠ b → ¬ blk a k → w'.heap[k]? = w.heap[k]?
 new : ∀ k, blk a' k → blk a k ∨ w.heap.size ≤ k
theorem Step.refl (b : Nat) (w : World) (a : Option Addr) : Step b w a w a := ⟨rfl, rfl, rfl, Nat.le_refl _, fun _ _ _ _ => rfl, fun _ h => .inl h⟩
theorem Step.trans {b : Nat} {w w1 w2 : World} {a a1 a2 : Option Addr} (h : Step b w a w1 a1) (k : Step b w1 a1 w2 a2) : Step b w a w2 a2 := by
 refine ⟨k.os.trans h.os, k.tape.trans h.tape, k.output.trans h.output, Nat.le_trans h.size k.size, fun i hi hb ha => ?_, fun i hi => ?_⟩
 ·rw [k.block i (Nat.lt_of_lt_of_le hi h.size) hb (fun e => ?_)]
  ·exact h.block i hi hb ha
  ·rcases h.new i e with e' | e'
   ·exact ha e'
   ·omega
 ·rcases k.new i hi with e | e
  ·exact h.new i e
  ·exact .inr (Nat.le_trans h.size e)
theorem Step.drewN {b : Nat} {w w1 : World} {a a1 : Option Addr} (h : Step b w a w1 a1) (n : Nat) : Step b w a (w1.drewN n) a1 := ⟨h.os, h.tape, h.output, h.size, h.block, h.new⟩
theorem Step.of_below {b : Nat} {w w1 : World} {a : Option Addr} (h : Below w.heap.size w w1) : Step b w a w1 a := ⟨h.os, h.tape, h.output, h.size, fun k hk _ _ => h.block k hk, fun _ h => .inl h⟩
theorem Step.below {b B : Nat} {w w1 : World} {a a1 : Option Addr} (h : Step b w a w1 a1) (hb : B ≤ b) (ha : ∀ k, blk a k → B ≤ k) (hw : B ≤ w.heap.size) : Below B w w1 :=
 ⟨h.os, h.tape, h.output, h.size, fun k hk => h.block k (by omega) (by omega) (fun e => by have := ha k e; omega)⟩
theorem WS.keep {w w1 : World} {b : Nat} {a : Option Addr} {cap m : Nat} {st : Nat × List UInt8} (h : WS w b a cap m st) (hb : Below w.heap.size w w1) : WS w1 b a cap m st :=
 ⟨by rw [hb.block b h.lt]; exact h.row, h.own.kept (row := none) ⟨hb.os, hb.tape, hb.output, hb.size, fun k hk _ => hb.block k hk⟩ (by cases (Value.slice a st.2.length cap).ownBlock <;> simp), h.fit, h.le⟩
def WQ (w : World) (b : Nat) (a : Option Addr) (m : Nat) (st : Nat × List UInt8) (w' : World) : Prop := ∃ a' cap', WS w' b a' cap' m st ∧ Step b w a w' a'
theorem failed_any (b : Nat) (a : Option Addr) (cap m : Nat) (st : Nat × List UInt8) (w : World) (hw : WS w b a cap m st) :
  Calls Tryz.prog 207 #[.pointer (some ⟨b, 0, none⟩)] w fun x w' => x = .returned (.bool (decide (st.1 ≠ 0))) ∧ w' = w := by
 have c2 := hw.c2
 obtain ⟨e, l⟩ := st
 simp only at c2
 cases e with
 | zero =>
  go_enter Tryz.func207, Tryz.ntmps207
  go_wp2
  go_ret
  exact ⟨rfl, rfl⟩
 | succ n =>
  have hd : (((n + 1 : Nat) : Int) != 0) = true := by simp; omega
  generalize n + 1 = q at *
  go_enter Tryz.func207, Tryz.ntmps207
  go_wp2
  go_ret
  refine ⟨?_, rfl⟩
  have : q ≠ 0 := by simpa using hd
  simp [this]
theorem wfail_bad (b : Nat) (a : Option Addr) (cap m : Nat) (st : Nat × List UInt8) (k : Int) (w : World) (hw : WS w b a cap m st) (he : st.1 ≠ 0) :
  Calls Tryz.prog 208 #[.pointer (some ⟨b, 0, none⟩), .int .i64 k] w fun x w' => x = .returned (.tuple #[]) ∧ w' = w := by
 have hd : decide (st.1 ≠ 0) = true := by simpa using he
 go_enter Tryz.func208, Tryz.ntmps208
 go_wp2_with fail
 refine (failed_any b a cap m st w hw).mono ?_; rintro x w1 ⟨rfl, rfl⟩
 rw [hd]; go_wp2
 refine bodyPost_ret (results_none rfl _ _ _) rfl ?_
 exact ⟨rfl, rfl⟩
theorem wfail_ok (b : Nat) (a : Option Addr) (cap m : Nat) (l : List UInt8) (k : Nat) (w : World) (hw : WS w b a cap m (0, l)) (hk : k ≤ 2) :
  Calls Tryz.prog 208 #[.pointer (some ⟨b, 0, none⟩), .int .i64 k] w fun x w' => x = .returned (.tuple #[]) ∧ WQ w b a m (k, []) w' := by
 have f1 := hw.free 1
 have f2 := hw.free 2
 have c1 := hw.c1
 have c2 := hw.c2
 have Z : WQ w b a m (k, []) ((w.setCell ⟨b, 2, none⟩ (.int .i64 k)).setCell ⟨b, 1, none⟩ (.slice none 0 0)) := by
  refine ⟨none, 0, ⟨?_, World.ownsRow_nil _ _ _ _, ⟨hk, by simp, fun _ => rfl⟩, hw.le⟩, ⟨rfl, rfl, rfl, by simp, fun j hj hb _ => ?_, fun j ⟨_, _, h⟩ => by cases h⟩⟩
  ·have h1 := heap_setCell_same w b 2 _ _ (.int .i64 k) hw.row
   exact heap_setCell_same _ b 1 _ _ (.slice none 0 0) h1
  ·rw [heap_setCell_other _ ⟨b, 1, none⟩ j _ hb, heap_setCell_other _ ⟨b, 2, none⟩ j _ hb]
 go_enter Tryz.func208, Tryz.ntmps208
 go_wp2_with fail
 refine (failed_any b a cap m (0, l) w hw).mono ?_; rintro x w1 ⟨rfl, rfl⟩
 go_wp2
 go_end0
 exact ⟨rfl, Z⟩
theorem WS.laid {w w1 : World} {b : Nat} {a a' : Option Addr} {cap cap' m : Nat} {l s : List UInt8} (h : WS w b a cap m (0, l)) (hf : ¬ m < l.length + s.length)
  (hown : w1.ownsRow (b + 1) 5 1 (.slice a' (l.length + (ofL s).size) cap') (l.length + (ofL s).size) (vals l ++ Lib.strCells (ofL s))) (hg : w.grownBy w1 (Value.slice a l.length cap).ownBlock) (hat : ∀ k, blk a' k → (Value.slice a l.length cap).ownBlock = some k ∨ k = w.heap.size) :
  WQ w b a m (0, l ++ s) (w1.setCell ⟨b, 1, none⟩ (.slice a' (l.length + (ofL s).size) cap')) := by
 rw [ofL_size, strCells_vals, vals_app] at hown; rw [ofL_size]
 have hb : w1.heap[b]? = w.heap[b]? := hg.block b h.lt (fun e => by have := h.inb b (blk_own.1 e.symm); omega)
 have hr1 : w1.heap[b]? = some (.cells #[.int .i64 m, .slice a l.length cap, .int .i64 0] 234 (0, 0)) := hb.trans h.row
 have hlt : b < w1.heap.size := Nat.lt_of_lt_of_le h.lt hg.size
 refine ⟨a', cap', ⟨?_, ?_, ⟨by simp, by simp; omega, fun h => absurd rfl h⟩, h.le⟩, ⟨hg.os, hg.tape, hg.output, by simpa using hg.size, fun k hk hb ha => ?_, fun k hk => ?_⟩⟩
 ·simp only [List.length_append]
  exact heap_setCell_same w1 b 1 _ _ (.slice a' (l.length + s.length) cap') hr1
 ·simp only [List.length_append]
  exact hown.kept (grown_set w1 b 1 _) (by
   cases hv : (Value.slice a' (l.length + s.length) cap').ownBlock with
   | none => exact .inl rfl
   | some k =>
    refine .inr fun e => ?_
    have := (hown.lt k hv).1
    simp at e
    omega)
 ·rw [heap_setCell_other _ ⟨b, 1, none⟩ k _ hb]
  exact hg.block k hk (fun e => ha (blk_own.1 e.symm))
 ·rcases hat k hk with e | e
  ·exact .inl (blk_own.1 e)
  ·exact .inr (by omega)
theorem WS.out {w : World} {b : Nat} {a : Option Addr} {cap m : Nat} {st : Nat × List UInt8} (h : WS w b a cap m st) : WQ w b a m st w := ⟨a, cap, h, Step.refl _ _ _⟩
theorem lay_any (b : Nat) (a : Option Addr) (cap m : Nat) (st : Nat × List UInt8) (s : List UInt8) (w : World) (hw : WS w b a cap m st) (hs : s.length ≤ 140737488351232) :
  Calls Tryz.prog 178 #[.pointer (some ⟨b, 0, none⟩), .string (ofL s)] w fun x w' => x = .returned (.tuple #[]) ∧ WQ w b a m (M.lay m st s) w' := by
 obtain ⟨e, l⟩ := st
 by_cases he : e = 0
 ·subst he
  have hle := hw.le
  have hll : l.length ≤ m := hw.fit.2.1
  have c0 := hw.c0
  have c1 := hw.c1
  have f1 := hw.free 1
  simp only at c1
  have hsz := ofL_size s
  by_cases hov : m < l.length + s.length
  ·have HL : Hid (_ = _) := M.lay_over m l s hov
   have hd : ((m : Int) - (l.length : Int) < ((ofL s).size : Int)) := by omega
   go_enter Tryz.func178, Tryz.ntmps178
   go_wp2_with fail
   refine (failed_any b a cap m (0, l) w hw).mono ?_; rintro x w1 ⟨rfl, rfl⟩
   generalize hLL : l.length = ln at *
   go_wp2_with fail
   go_quiet (fail)
   go_wp2_with fail
   refine (wfail_ok b a cap m l 2 _ (hw.drewN _) (by decide)).mono ?_; rintro x w2 ⟨rfl, hq⟩
   go_wp2
   refine bodyPost_ret (results_none rfl _ _ _) rfl ?_
   rw [HL.out]
   obtain ⟨a', cap', h1, h2⟩ := hq
   exact ⟨rfl, a', cap', h1, ((Step.refl b w1 a).drewN _).trans h2⟩
  ·have HL : Hid (_ = _) := M.lay_fits m l s hov
   have hd : ¬ ((m : Int) - (l.length : Int) < ((ofL s).size : Int)) := by omega
   have hown := hw.own
   have hlt := hw.lt
   have HF : Hid (¬ m < l.length + s.length) := hov
   clear hov
   go_enter Tryz.func178, Tryz.ntmps178
   go_wp2_with fail
   refine (failed_any b a cap m (0, l) w hw).mono ?_; rintro x w1 ⟨rfl, rfl⟩
   go_wp2_with fail
   go_quiet (fail)
   go_wp2_with (at_builtin; refine wpList_append_str _ rfl _ _ rfl (b + 1) _ l.length (vals l) rfl hown (ofL s) rfl (by omega) (by simp; omega) ?_; intro a' cap' w2 hown2 hg2 hat; have hbk : w2.heap[b]? = w1.heap[b]? := hg2.block b hlt (fun e => by have := hw.inb b (blk_own.1 e.symm); omega); have c12 : w2.cell? ⟨b, 1, none⟩ = some (.slice a l.length cap) := (World.cell?_of_block (w := w1) hbk).trans c1; have f12 : w2.frozen? ⟨b, 1, none⟩ = false := (World.frozen?_of_block (w := w1) hbk).trans f1; have Z := (hw.drewN _).laid HF.out hown2 hg2 hat; clear hown2 hg2 hat hbk)
   go_end0
   rw [HL.out]
   obtain ⟨a2, cap2, h1, h2⟩ := Z
   exact ⟨rfl, a2, cap2, h1, ((Step.refl b w1 a).drewN _).trans h2⟩
 ·have HL : Hid (_ = _) := M.lay_bad m (e, l) s he
  have hd : decide (e ≠ 0) = true := by simpa using he
  go_enter Tryz.func178, Tryz.ntmps178
  go_wp2_with fail
  refine (failed_any b a cap m (e, l) w hw).mono ?_; rintro x w1 ⟨rfl, rfl⟩
  rw [hd]; go_wp2
  refine bodyPost_ret (results_none rfl _ _ _) rfl ?_
  rw [HL.out]
  exact ⟨rfl, hw.out⟩
theorem zz_pos (m : Nat) : ((M.zz m : Nat) : Int) = (m : Int) * 2 := by unfold M.zz; rw [if_neg (by omega)]; omega
theorem zz_neg (n : Int) (h0 : -9223372036854775808 ≤ n) (hneg : n < 0) : bits .xor .u64 IntKind.u64.max (IntKind.u64.wrap (IntKind.u64.wrap n * 2)) = ((M.zz n : Nat) : Int) := by
 rw [Lib.zigzag_neg h0 hneg]; unfold Lib.zigzag M.zz; rw [if_neg (by omega), if_pos hneg]
theorem or_all : ∀ a : Fin 256, (a.val ||| 128) = a.val % 128 + 128 := by decide
theorem byte_more (x : Nat) : bits .or .u8 ((x : Int) % 256) 128 = ((UInt8.ofNat (x % 128 + 128)).toNat : Int) := by
 have h1 : ((x : Int) % 256) = ((x % 256 : Nat) : Int) := by omega
 have h2 : bits .or .u8 ((x % 256 : Nat) : Int) 128 = ((x % 256 ||| 128 : Nat) : Int) := u8_or_nat (x % 256) 128 (by omega) (by decide)
 have h4 : (x % 256 ||| 128) = x % 128 + 128 := by
  have := or_all ⟨x % 256, by omega⟩
  simp only at this
  rw [this]
  omega
 rw [h1, h2, h4]
 have h5 : (UInt8.ofNat (x % 128 + 128)).toNat = x % 128 + 128 := by simp; omega
 rw [h5]
theorem byte_last (x : Nat) (h : x < 128) : ((UInt8.ofNat x).toNat : Int) = (x : Int) := by
 have h5 : (UInt8.ofNat x).toNat = x := by simp; omega
 rw [h5]
theorem vals_snoc (l : List UInt8) (c : UInt8) (X : Int) (hX : X = (c.toNat : Int)) : vals l ++ [Value.int .u8 X] = vals (l ++ [c]) := by subst hX; simp [vals]
theorem wint_via (n : Int) (p : Value) (w : World) (hn : -9223372036854775808 ≤ n ∧ n ≤ 9223372036854775807) (Q : World → Prop)
  (h : ∀ w1, Below w.heap.size w w1 → Calls Tryz.prog 178 #[p, .string (ofL (M.enc n))] w1 fun x w' => x = .returned (.tuple #[]) ∧ Q w') :
  Calls Tryz.prog 177 #[p, .int .i64 n] w fun x w' => x = .returned (.tuple #[]) ∧ Q w' := by
 obtain ⟨i0, hi, hz0, hz1, hz2⟩ := info_parts Tryz.info5
 have hzl := M.zz_lt n hn
 have het := M.enc_ten n hn
 have HE : Hid (M.enc n = M.grp (M.zz n)) := rfl
 have hcase : n < 0 ∨ ∃ m : Nat, n = m := by
  by_cases h : n < 0
  ·exact .inl h
  ·obtain ⟨m, rfl⟩ := Int.eq_ofNat_of_zero_le (show 0 ≤ n by omega)
   exact .inr ⟨m, rfl⟩
 have hsg : IntKind.u64.signed = false := rfl
 rcases hcase with hneg | ⟨m, rfl⟩
 ·have hzz := zz_neg n hn.1 hneg
  have hd : decide (n < 0) = true := by simpa using hneg
  obtain ⟨z, hz⟩ : ∃ z, z = M.zz n := ⟨_, rfl⟩
  rw [← hz] at hzz hzl HE; clear hz
  go_enter Tryz.func177, Tryz.ntmps177
  go_wp2_with (at_make; refine wpList_make_own _ rfl _ _ 138 rfl w.heap.size 5 i0 (.int .u8 0) 1 Tryz.underlying138 hi hz0 hz1 .i64 .i64 _ 10 rfl rfl rfl (by rw [hz2]; omega) (by unfold maxLen; omega) Lr ?_; intro w1 hown1 hg1)
  clear hzz
  go_loopw [4, 5] (fun u v wr => ∃ (x : Nat) (pre : List UInt8), u = .int .u64 x ∧ x < 18446744073709551616 ∧ wr.ownsRow w.heap.size 5 1 v pre.length (vals pre) ∧ Below w.heap.size w wr ∧ Hid (pre ++ M.grp x = M.enc n)) (fun u _ _ => (intOf u).toNat)
  case atStart => exact ⟨z, [], rfl, hzl, hown1, (Below.refl _ _).grown hg1 Lr (by simp), HE.out.symm⟩
  case round =>
   obtain ⟨x, pre, rfl, hx, hown, hbel, HP⟩ := hrel
   clear hown1 hg1
   have hle := hbel.size
   have hpl : pre.length ≤ 10 := by
    have := congrArg List.length HP.out
    rw [List.length_append] at this
    omega
   by_cases hlt : 128 ≤ x
   ·have HV : Hid (vals pre ++ [Value.int .u8 (bits BinOp.or IntKind.u8 ((x : Int) % 256) 128)] = vals (pre ++ [UInt8.ofNat (x % 128 + 128)])) := vals_snoc _ _ _ (byte_more x)
    have HP2 : Hid ((pre ++ [UInt8.ofNat (x % 128 + 128)]) ++ M.grp (x / 128) = M.enc n) := by
     show _ = _
     rw [← HP.out, M.grp_great x (by omega)]
     simp
    go_wp2_with (at_builtin; refine wpList_append_own _ rfl _ _ 138 rfl w.heap.size 5 i0 (.int .u8 0) 1 1 Tryz.underlying138 hi hz0 hz1 hz2 rfl (by decide) _ _ _ rfl (hown.alloc _) ⟨wr.heap.size, 0, none⟩ 1 1 [.int .u8 (bits BinOp.or IntKind.u8 ((x : Int) % 256) 128)] rfl rfl (cell_one_new _ _ _) (by simp; rfl) (by unfold maxLen; omega) (by omega) (by simp; omega) ?_; intro v' w2 hown2 hgrow hnil)
    rw [HV.out] at hown2
    have hb2 := (hbel.alloc hle _).grown hgrow (by simp; omega) (fun j hj => (hown.lt j hj).1)
    clear hown hgrow; go_wp2
    go_roundw
    case rel => exact ⟨x / 128, pre ++ [UInt8.ofNat (x % 128 + 128)], by first | rfl | go_num, by omega, by rw [List.length_append]; exact hown2, hb2, HP2⟩
    case measure => simp [intOf]; omega
   ·have HV : Hid (vals pre ++ [Value.int .u8 (x : Int)] = vals (pre ++ [UInt8.ofNat x])) := vals_snoc _ _ _ (byte_last x (by omega)).symm
    have HP2 : Hid (pre ++ [UInt8.ofNat x] = M.enc n) := by
     show _ = _
     rw [← HP.out, M.grp_small x (by omega)]
    go_wp2_with (at_builtin; refine wpList_append_own _ rfl _ _ 138 rfl w.heap.size 5 i0 (.int .u8 0) 1 1 Tryz.underlying138 hi hz0 hz1 hz2 rfl (by decide) _ _ _ rfl (hown.alloc _) ⟨wr.heap.size, 0, none⟩ 1 1 [.int .u8 (x : Int)] rfl rfl (cell_one_new _ _ _) (by simp; rfl) (by unfold maxLen; omega) (by omega) (by simp; omega) ?_; intro v' w2 hown2 hgrow hnil; rw [HV.out] at hown2; have hcv := owns_convert hown2 (by simp); rw [HP2.out] at hcv; have hb2 := (hbel.alloc hle _).grown hgrow (by simp; omega) (fun j hj => (hown.lt j hj).1); clear hown hgrow)
    refine (h w2 hb2).mono ?_; rintro y w3 ⟨rfl, hq⟩
    go_wp2
    go_end0
    exact ⟨rfl, hq⟩
 ·have hzz := (zz_pos m).symm
  obtain ⟨n, hnm⟩ : ∃ n : Int, n = m := ⟨_, rfl⟩
  obtain ⟨z, hz⟩ : ∃ z, z = M.zz m := ⟨_, rfl⟩
  rw [← hz] at hzz hzl HE; clear hz
  have HNM : Hid (n = m) := hnm
  rw [← hnm] at het HE h; clear hnm
  go_enter Tryz.func177, Tryz.ntmps177
  go_wp2_with (at_make; refine wpList_make_own _ rfl _ _ 138 rfl w.heap.size 5 i0 (.int .u8 0) 1 Tryz.underlying138 hi hz0 hz1 .i64 .i64 _ 10 rfl rfl rfl (by rw [hz2]; omega) (by unfold maxLen; omega) Lr ?_; intro w1 hown1 hg1)
  clear hzz
  go_loopw [4, 5] (fun u v wr => ∃ (x : Nat) (pre : List UInt8), u = .int .u64 x ∧ x < 18446744073709551616 ∧ wr.ownsRow w.heap.size 5 1 v pre.length (vals pre) ∧ Below w.heap.size w wr ∧ Hid (pre ++ M.grp x = M.enc n)) (fun u _ _ => (intOf u).toNat)
  case atStart => exact ⟨z, [], rfl, hzl, hown1, (Below.refl _ _).grown hg1 Lr (by simp), HE.out.symm⟩
  case round =>
   obtain ⟨x, pre, rfl, hx, hown, hbel, HP⟩ := hrel
   clear hown1 hg1
   have hle := hbel.size
   have hpl : pre.length ≤ 10 := by
    have := congrArg List.length HP.out
    rw [List.length_append] at this
    omega
   by_cases hlt : 128 ≤ x
   ·have HV : Hid (vals pre ++ [Value.int .u8 (bits BinOp.or IntKind.u8 ((x : Int) % 256) 128)] = vals (pre ++ [UInt8.ofNat (x % 128 + 128)])) := vals_snoc _ _ _ (byte_more x)
    have HP2 : Hid ((pre ++ [UInt8.ofNat (x % 128 + 128)]) ++ M.grp (x / 128) = M.enc n) := by
     show _ = _
     rw [← HP.out, M.grp_great x (by omega)]
     simp
    go_wp2_with (at_builtin; refine wpList_append_own _ rfl _ _ 138 rfl w.heap.size 5 i0 (.int .u8 0) 1 1 Tryz.underlying138 hi hz0 hz1 hz2 rfl (by decide) _ _ _ rfl (hown.alloc _) ⟨wr.heap.size, 0, none⟩ 1 1 [.int .u8 (bits BinOp.or IntKind.u8 ((x : Int) % 256) 128)] rfl rfl (cell_one_new _ _ _) (by simp; rfl) (by unfold maxLen; omega) (by omega) (by simp; omega) ?_; intro v' w2 hown2 hgrow hnil)
    rw [HV.out] at hown2
    have hb2 := (hbel.alloc hle _).grown hgrow (by simp; omega) (fun j hj => (hown.lt j hj).1)
    clear hown hgrow; go_wp2
    go_roundw
    case rel => exact ⟨x / 128, pre ++ [UInt8.ofNat (x % 128 + 128)], by first | rfl | go_num, by omega, by rw [List.length_append]; exact hown2, hb2, HP2⟩
    case measure => simp [intOf]; omega
   ·have HV : Hid (vals pre ++ [Value.int .u8 (x : Int)] = vals (pre ++ [UInt8.ofNat x])) := vals_snoc _ _ _ (byte_last x (by omega)).symm
    have HP2 : Hid (pre ++ [UInt8.ofNat x] = M.enc n) := by
     show _ = _
     rw [← HP.out, M.grp_small x (by omega)]
    go_wp2_with (at_builtin; refine wpList_append_own _ rfl _ _ 138 rfl w.heap.size 5 i0 (.int .u8 0) 1 1 Tryz.underlying138 hi hz0 hz1 hz2 rfl (by decide) _ _ _ rfl (hown.alloc _) ⟨wr.heap.size, 0, none⟩ 1 1 [.int .u8 (x : Int)] rfl rfl (cell_one_new _ _ _) (by simp; rfl) (by unfold maxLen; omega) (by omega) (by simp; omega) ?_; intro v' w2 hown2 hgrow hnil; rw [HV.out] at hown2; have hcv := owns_convert hown2 (by simp); rw [HP2.out] at hcv; have hb2 := (hbel.alloc hle _).grown hgrow (by simp; omega) (fun j hj => (hown.lt j hj).1); clear hown hgrow)
    refine (h w2 hb2).mono ?_; rintro y w3 ⟨rfl, hq⟩
    go_wp2
    go_end0
    exact ⟨rfl, hq⟩
theorem WQ.pre {w w1 : World} {b : Nat} {a : Option Addr} {m : Nat} {st : Nat × List UInt8} {w' : World} (hb : Below w.heap.size w w1) (h : WQ w1 b a m st w') : WQ w b a m st w' := by
 obtain ⟨a', cap', h1, h2⟩ := h
 exact ⟨a', cap', h1, (Step.of_below hb).trans h2⟩
theorem wint_any (b : Nat) (a : Option Addr) (cap m : Nat) (st : Nat × List UInt8) (n : Int) (w : World) (hw : WS w b a cap m st) (hn : -9223372036854775808 ≤ n ∧ n ≤ 9223372036854775807) :
  Calls Tryz.prog 177 #[.pointer (some ⟨b, 0, none⟩), .int .i64 n] w fun x w' => x = .returned (.tuple #[]) ∧ WQ w b a m (M.lay m st (M.enc n)) w' :=
 wint_via n _ w hn _ fun w1 hb => (lay_any b a cap m st (M.enc n) w1 (hw.keep hb) (by have := M.enc_ten n hn; omega)).mono fun x w' ⟨h1, h2⟩ => ⟨h1, h2.pre hb⟩
theorem one_convert (w : World) (k : Nat) (hk : k < 256) :
  (Go.convert 138 9 (.slice (some ⟨w.heap.size, 0, none⟩) 1 1)).run Tryz.prog (w.alloc (.cells #[.int .u8 (k : Int)] 5)) = .ok (.string (ofL [UInt8.ofNat k])) (w.alloc (.cells #[.int .u8 (k : Int)] 5)) := by
 have h5 : (UInt8.ofNat k).toNat = k := by simp; omega
 refine run_convert_bytes_back _ 138 9 5 ⟨w.heap.size, 0, none⟩ 1 [UInt8.ofNat k] Tryz.underlying138 Tryz.underlying5 Tryz.underlying9 fun j hj => ?_
 rw [show ((⟨w.heap.size, 0, none⟩ : Addr).add j) = ⟨w.heap.size, j, none⟩ by unfold Addr.add; split <;> simp_all]
 rw [cell_of_row _ _ _ _ _ _ (heap_alloc_new w _)]
 match j, hj with
 | 0, _ => show some (Value.int .u8 (k : Int)) = some (.int .u8 ((UInt8.ofNat k).toNat : Int)); rw [h5]
theorem wbyte_any (b : Nat) (a : Option Addr) (cap m : Nat) (st : Nat × List UInt8) (n : Int) (w : World) (hw : WS w b a cap m st) :
  Calls Tryz.prog 180 #[.pointer (some ⟨b, 0, none⟩), .int .i64 n] w fun x w' => x = .returned (.tuple #[]) ∧ WQ w b a m (M.byteW m st n) w' := by
 by_cases hbad : n < 0 ∨ 255 < n
 ·have hd : decide (n < 0) = true ∨ decide (n < 0) = false ∧ decide (255 < n) = true := by simp; omega
  obtain ⟨e, l⟩ := st
  by_cases he : e = 0
  ·subst he
   have HB : Hid (M.byteW m (0, l) n = (1, [])) := by show _ = _; unfold M.byteW; rw [if_neg (by simp), if_pos hbad]
   clear hbad
   rcases hd with d1 | ⟨d1, d2⟩
   all_goals
    go_enter Tryz.func180, Tryz.ntmps180
    go_wp2_with fail
    refine (wfail_ok b a cap m l 1 w hw (by decide)).mono ?_; rintro x w1 ⟨rfl, hq⟩
    go_wp2
    refine bodyPost_ret (results_none rfl _ _ _) rfl ?_
    rw [HB.out]
    exact ⟨rfl, hq⟩
  ·have HB : Hid (M.byteW m (e, l) n = (e, l)) := by show _ = _; unfold M.byteW; rw [if_pos he]
   clear hbad
   rcases hd with d1 | ⟨d1, d2⟩
   all_goals
    go_enter Tryz.func180, Tryz.ntmps180
    go_wp2_with fail
    refine (wfail_bad b a cap m (e, l) 1 w hw he).mono ?_; rintro x w1 ⟨rfl, rfl⟩
    go_wp2
    refine bodyPost_ret (results_none rfl _ _ _) rfl ?_
    rw [HB.out]
    exact ⟨rfl, hw.out⟩
 ·have HB : Hid (M.byteW m st n = M.lay m st [UInt8.ofNat n.toNat]) := by
   show _ = _
   unfold M.byteW
   by_cases he : st.1 ≠ 0
   ·rw [if_pos he, M.lay_bad m st _ he]
   ·rw [if_neg he, if_neg hbad]
  obtain ⟨k, rfl⟩ := Int.eq_ofNat_of_zero_le (show 0 ≤ n by omega)
  rw [Int.toNat_natCast] at HB
  have hk : k < 256 := by omega
  have d1 : decide ((k : Int) < 0) = false := by simp
  have d2 : decide ((255 : Int) < (k : Int)) = false := by simp; omega
  have hcv := one_convert w k hk
  clear hbad
  go_enter Tryz.func180, Tryz.ntmps180
  go_wp2_with fail
  refine (lay_any b a cap m st [UInt8.ofNat k] _ (hw.keep ((Below.refl _ _).alloc Lr _)) (by simp)).mono ?_; rintro x w1 ⟨rfl, hq⟩
  go_wp2
  go_end0
  rw [HB.out]
  exact ⟨rfl, hq.pre ((Below.refl _ _).alloc Lr _)⟩
theorem wtext_any (b : Nat) (a : Option Addr) (cap m : Nat) (st : Nat × List UInt8) (s : List UInt8) (w : World) (hw : WS w b a cap m st) (hs : s.length ≤ 1000000) :
  Calls Tryz.prog 150 #[.pointer (some ⟨b, 0, none⟩), .string (ofL s)] w fun x w' => x = .returned (.tuple #[]) ∧ WQ w b a m (M.lay m st (M.encT s)) w' := by
 have hsz := ofL_size s
 have HL : Hid (M.lay m (M.lay m st (M.enc s.length)) s = M.lay m st (M.encT s)) := M.lay_lay _ _ _ _
 go_enter Tryz.func150, Tryz.ntmps150
 go_wp2_with fail
 refine (wint_any b a cap m st s.length w hw (by omega)).mono ?_; rintro x w1 ⟨rfl, hq⟩
 obtain ⟨a1, cap1, hw1, hs1⟩ := hq
 go_wp2_with fail
 refine (lay_any b a1 cap1 m _ s w1 hw1 (by omega)).mono ?_; rintro x w2 ⟨rfl, hq⟩
 obtain ⟨a2, cap2, hw2, hs2⟩ := hq
 rw [HL.out] at hw2; go_wp2
 go_end0
 exact ⟨rfl, a2, cap2, hw2, hs1.trans hs2⟩
theorem wdone_any (b : Nat) (a : Option Addr) (cap m : Nat) (st : Nat × List UInt8) (w : World) (hw : WS w b a cap m st) :
  Calls Tryz.prog 153 #[.pointer (some ⟨b, 0, none⟩)] w fun x w' => x = .returned (.tuple #[.string (ofL st.2), .int .i64 st.1]) ∧ Below w.heap.size w w' := by
 have c1 := hw.c1
 have c2 := hw.c2
 have hcv : ∀ q, (Go.convert 138 9 (.slice a st.2.length cap)).run Tryz.prog (w.drewN q) = .ok (.string (ofL st.2)) (w.drewN q) := fun q => owns_convert (hw.drewN q).own rfl
 have hcv1 : (Go.convert 138 9 (.slice a st.2.length cap)).run Tryz.prog w.drew = .ok (.string (ofL st.2)) w.drew := hcv 1
 go_enter Tryz.func153, Tryz.ntmps153
 go_wp2_with fail
 go_region
 all_goals
  go_wp2
  go_ret2
  exact ⟨rfl, (Below.refl _ _).drew⟩
def clip (n : Int) : Nat := (min (max n 0) 65536).toNat
theorem clip_le (n : Int) : clip n ≤ 65536 := by unfold clip; omega
theorem clip_eq (n : Int) : ((clip n : Nat) : Int) = min (max n 0) 65536 := by unfold clip; omega
def NewW (w : World) (m : Nat) (x : Ending) (w' : World) : Prop :=
 ∃ b, x = .returned (.pointer (some ⟨b, 0, none⟩)) ∧ w.heap.size ≤ b ∧ WS w' b none 0 m (0, []) ∧ Below w.heap.size w w'
theorem newWriter_any (n : Int) (w : World) : Calls Tryz.prog 149 #[.int .i64 n] w (NewW w (clip n)) := by
 go_enter Tryz.func149, Tryz.ntmps149
 go_wp2
 go_ret
 refine ⟨w.heap.size, rfl, Nat.le_refl _, ⟨?_, World.ownsRow_nil _ _ _ _, ⟨by simp, by simp, fun _ => rfl⟩, clip_le n⟩, (Below.refl _ _).alloc Lr _⟩
 rw [← clip_eq]
 exact heap_alloc_new w _
end Go.Proofs.YtlnedgjikkhplaaGreat.Nc
