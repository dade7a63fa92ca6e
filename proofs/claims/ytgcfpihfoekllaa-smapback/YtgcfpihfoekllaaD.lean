/-
  A writer in memory, and the calls that lay bytes: each does what the plain functions of the text M say, and writes nothing but the writer, its bytes and what is new.
-/
import Derived.Test.YtgcfpihfoekllaaC
namespace Go.Proofs.Ytgcfpihfoekllaa
open Go.RowKit
set_option linter.unusedVariables false

def vals (l : List UInt8) : List Value := l.map fun b => Value.int .u8 (b.toNat : Int)
theorem vals_len (l : List UInt8) : (vals l).length = l.length := by simp [vals]
theorem vals_app (a b : List UInt8) : vals a ++ vals b = vals (a ++ b) := by simp [vals]
theorem strCells_vals (s : List UInt8) : Lib.strCells (ofL s) = vals s := by simp [Lib.strCells, vals, ofL]

theorem owns_convert {w : World} {base n : Nat} {v : Value} {l : List UInt8} (h : w.ownsRow base 5 1 v n (vals l)) (hn : l.length = n) : (Go.convert 77 9 v).run Try.prog w = .ok (.string (ofL l)) w := by
  rcases h.2 with ⟨rfl, h0⟩ | ⟨g, cap, cur, rfl, hb, hh, hc, hm, hs, ht⟩
  · have hl : l = [] := List.length_eq_zero_iff.1 (by omega)
    subst hl
    exact run_convert_bytes_nil (P := Try.prog) w 77 5 Try.underlying77 Try.underlying5 0 0 9 Try.underlying9
  · subst hn
    refine run_convert_bytes_back w 77 9 5 ⟨g, 0, none⟩ cap l Try.underlying77 Try.underlying5 Try.underlying9 fun j hj => ?_
    exact h.cells (g := g) rfl j (.int .u8 (l[j].toNat : Int)) (by simp [vals, hj])

theorem blk_own {a : Option Addr} {n c k : Nat} : (Value.slice a n c).ownBlock = some k ↔ blk a k := by
  cases a with
  | none => simp [Value.ownBlock, blk]
  | some ad =>
    obtain ⟨b, off, s⟩ := ad
    simp [Value.ownBlock, blk]

/-- Where the new slice lies behind an append of a text. -/
theorem lies_string {w : World} {base : Nat} {ty : TypeId} {i : TypeInfo} (hi : Try.prog.info? 5 = some i) (hz : i.zero = some (.int .u8 0)) (hsize : i.size = 1) (hby : i.bytes = 1)
    {v : Value} {n : Nat} {xs : List Value} (hown : w.ownsRow base 5 1 v n xs) (s : ByteArray) (h63 : n + s.size ≤ maxLen) (hbytes : n + s.size ≤ 140737488355328)
    {v' : Value} {w' : World} (hr : (Builtin.append_ #[77, 9] ty #[v, .string s]).run Try.prog w = .ok v' w') : v'.ownBlock = v.ownBlock ∨ v'.ownBlock = some w.heap.size := by
  have hsmall : n + s.size ≤ 9223372036854775807 := by simp only [maxLen] at h63; omega
  have hxl : xs.length = n := by simpa using hown.1
  rcases hown.2 with ⟨rfl, rfl⟩ | ⟨g, cap, cur, rfl, hbg, hg, hnc, hcm, hcs, htake⟩
  · by_cases hm : s.size = 0
    · have hf := Lib.run_firstCells_string (P := Try.prog) w 1 s
      rw [hm] at hf
      have e : (Builtin.append_ #[77, 9] ty #[.slice none 0 0, .string s]).run Try.prog w = .ok (.slice none 0 0) w := by
        simp [Builtin.append_, run_underlying Try.underlying77, run_underlying Try.underlying9, sizeOf, typeInfo, hi, hsize, Builtin.lenOf, hm, hf]
      rw [e] at hr
      simp only [Result.ok.injEq] at hr
      obtain ⟨rfl, rfl⟩ := hr
      exact .inl rfl
    · have e := run_append_nil_string (P := Try.prog) w 77 9 ty 5 i (.int .u8 0) Try.underlying77 Try.underlying9 hi hz s (by omega) (by omega) (by rw [hby]; omega)
      rw [e] at hr
      simp only [Result.ok.injEq] at hr
      obtain ⟨rfl, rfl⟩ := hr
      exact .inr rfl
  · by_cases hroom : n + s.size ≤ cap
    · have hcs' : cur.size = cap := by simpa using hcs
      have e := Lib.run_append_room_string (P := Try.prog) w 77 9 ty 5 i Try.underlying77 Try.underlying9 hi hsize g n cap cur hg s hroom (by omega)
      rw [e] at hr
      simp only [Result.ok.injEq] at hr
      obtain ⟨rfl, rfl⟩ := hr
      exact .inl rfl
    · have holds : ∀ j u, xs[j]? = some u → w.cell? ((⟨g, 0, none⟩ : Addr).add j) = some u := hown.cells (g := g) rfl
      have e := Lib.run_append_grow_string (P := Try.prog) w 77 9 ty 5 i (.int .u8 0) Try.underlying77 Try.underlying9 hi hz ⟨g, 0, none⟩ n cap xs (by rw [hsize]; simpa using hxl) holds s (by omega) (by omega) (by rw [hby]; exact growslice_fits (by omega) (by omega))
      rw [e] at hr
      simp only [Result.ok.injEq] at hr
      obtain ⟨rfl, rfl⟩ := hr
      exact .inr rfl

theorem wpList_append_str (w : World) {ops : Array Oper} {rest : List Oper} {o : Oper} {a : Act} {Q : Exit → Act → World → Prop} (hgd : o.guard = none) (sl x : Operand)
    (ho : o.op = .call { callee := .builtin .append, args := #[sl, x], argTypes := #[77, 9] })
    (base : Nat) (v : Value) (n : Nat) (xs : List Value) (hs : a.eval sl = v) (hown : w.ownsRow base 5 1 v n xs) (s : ByteArray) (hx : a.eval x = .string s) (hbytes : n + s.size ≤ 140737488355328) (hbase : base ≤ w.heap.size)
    (h : ∀ a' cap' w', w'.ownsRow base 5 1 (.slice a' (n + s.size) cap') (n + s.size) (xs ++ Lib.strCells s) → w.grownBy w' v.ownBlock → (∀ k, blk a' k → v.ownBlock = some k ∨ k = w.heap.size) → wpList Try.prog ops Q rest (a.put o.dst (.slice a' (n + s.size) cap')) w') :
    wpList Try.prog ops Q (o :: rest) a w := by
  obtain ⟨i, hi, hz0, hz1, hz2⟩ := info_parts Try.info5
  refine wpList_plain hgd fun K hK => ?_
  have h63 : n + s.size ≤ maxLen := by unfold maxLen; omega
  obtain ⟨v', w', hr, h2, h3, h4⟩ := Lib.run_append_own_string (P := Try.prog) w base 77 9 o.type 5 i Try.underlying77 Try.underlying9 hi hz0 hz1 hz2 v n xs hown s h63 hbytes hbase
  have hl := lies_string hi hz0 hz1 hz2 hown s h63 hbytes hr
  unfold Oper.wp execOp
  simp only [ho, resolve, invoke, builtin, Sem.run_bind, Sem.run_pure, Result.andThen_ok, List.map_toArray, List.map_cons, List.map_nil, hs, hx, hr]
  obtain ⟨a', cap', rfl⟩ : ∃ a' cap', v' = .slice a' (n + s.size) cap' := by
    rcases h2.2 with ⟨rfl, h0⟩ | ⟨g, cap, cur, rfl, _⟩
    · exact ⟨none, 0, by rw [h0]⟩
    · exact ⟨_, _, rfl⟩
  refine hK _ _ (h a' cap' w' h2 h3 fun k hk => ?_)
  have hk' : (Value.slice a' (n + s.size) cap').ownBlock = some k := blk_own.2 hk
  rcases hl with e | e
  · exact .inl (e.symm.trans hk')
  · exact .inr (by rw [hk'] at e; simpa using e)

/-- A writer at block b: its bytes at a (room for cap), at most m, its error and its bytes. -/
structure WS (w : World) (b : Nat) (a : Option Addr) (cap m : Nat) (st : Nat × List UInt8) : Prop where
  row : w.heap[b]? = some (.cells #[.int .i64 m, .slice a st.2.length cap, .int .i64 st.1] 125 (0, 0))
  own : w.ownsRow (b + 1) 5 1 (.slice a st.2.length cap) st.2.length (vals st.2)
  fit : M.Fit m st
  le : m ≤ 65536
theorem WS.lt {w : World} {b : Nat} {a : Option Addr} {cap m : Nat} {st : Nat × List UInt8} (h : WS w b a cap m st) : b < w.heap.size := by
  rcases Nat.lt_or_ge b w.heap.size with h' | h'
  · exact h'
  · have := h.row; rw [Array.getElem?_eq_none h'] at this; cases this
theorem WS.c0 {w : World} {b : Nat} {a : Option Addr} {cap m : Nat} {st : Nat × List UInt8} (h : WS w b a cap m st) : w.cell? ⟨b, 0, none⟩ = some (.int .i64 m) := by rw [cell_of_row w b 0 _ _ _ h.row]; rfl
theorem WS.c1 {w : World} {b : Nat} {a : Option Addr} {cap m : Nat} {st : Nat × List UInt8} (h : WS w b a cap m st) : w.cell? ⟨b, 1, none⟩ = some (.slice a st.2.length cap) := by rw [cell_of_row w b 1 _ _ _ h.row]; rfl
theorem WS.c2 {w : World} {b : Nat} {a : Option Addr} {cap m : Nat} {st : Nat × List UInt8} (h : WS w b a cap m st) : w.cell? ⟨b, 2, none⟩ = some (.int .i64 st.1) := by rw [cell_of_row w b 2 _ _ _ h.row]; rfl
theorem WS.free {w : World} {b : Nat} {a : Option Addr} {cap m : Nat} {st : Nat × List UInt8} (h : WS w b a cap m st) (j : Nat) : w.frozen? ⟨b, j, none⟩ = false := frozen_of_row w b j _ _ h.row
theorem WS.inb {w : World} {b : Nat} {a : Option Addr} {cap m : Nat} {st : Nat × List UInt8} (h : WS w b a cap m st) (k : Nat) (hk : blk a k) : b < k ∧ k < w.heap.size := by
  have := h.own.lt k (blk_own.2 hk)
  omega
theorem WS.drewN {w : World} {b : Nat} {a : Option Addr} {cap m : Nat} {st : Nat × List UInt8} (h : WS w b a cap m st) (n : Nat) : WS (w.drewN n) b a cap m st := ⟨h.row, h.own, h.fit, h.le⟩

/-- What a call on the writer at b may turn: the writer, its bytes, what is new. -/
structure Step (b : Nat) (w : World) (a : Option Addr) (w' : World) (a' : Option Addr) : Prop where
  os : w'.os = w.os
  tape : w'.tape = w.tape
  output : w'.output = w.output
  size : w.heap.size ≤ w'.heap.size
  block : ∀ k, k < w.heap.size → k ≠ b → ¬ blk a k → w'.heap[k]? = w.heap[k]?
  new : ∀ k, blk a' k → blk a k ∨ w.heap.size ≤ k
theorem Step.refl (b : Nat) (w : World) (a : Option Addr) : Step b w a w a := ⟨rfl, rfl, rfl, Nat.le_refl _, fun _ _ _ _ => rfl, fun _ h => .inl h⟩
theorem Step.trans {b : Nat} {w w1 w2 : World} {a a1 a2 : Option Addr} (h : Step b w a w1 a1) (k : Step b w1 a1 w2 a2) : Step b w a w2 a2 := by
  refine ⟨k.os.trans h.os, k.tape.trans h.tape, k.output.trans h.output, Nat.le_trans h.size k.size, fun i hi hb ha => ?_, fun i hi => ?_⟩
  · rw [k.block i (Nat.lt_of_lt_of_le hi h.size) hb (fun e => ?_)]
    · exact h.block i hi hb ha
    · rcases h.new i e with e' | e'
      · exact ha e'
      · omega
  · rcases k.new i hi with e | e
    · exact h.new i e
    · exact .inr (Nat.le_trans h.size e)
theorem Step.drewN {b : Nat} {w w1 : World} {a a1 : Option Addr} (h : Step b w a w1 a1) (n : Nat) : Step b w a (w1.drewN n) a1 := ⟨h.os, h.tape, h.output, h.size, h.block, h.new⟩
theorem Step.of_below {b : Nat} {w w1 : World} {a : Option Addr} (h : Below w.heap.size w w1) : Step b w a w1 a := ⟨h.os, h.tape, h.output, h.size, fun k hk _ _ => h.block k hk, fun _ h => .inl h⟩
theorem Step.below {b B : Nat} {w w1 : World} {a a1 : Option Addr} (h : Step b w a w1 a1) (hb : B ≤ b) (ha : ∀ k, blk a k → B ≤ k) (hw : B ≤ w.heap.size) : Below B w w1 :=
  ⟨h.os, h.tape, h.output, h.size, fun k hk => h.block k (by omega) (by omega) (fun e => by have := ha k e; omega)⟩
theorem WS.keep {w w1 : World} {b : Nat} {a : Option Addr} {cap m : Nat} {st : Nat × List UInt8} (h : WS w b a cap m st) (hb : Below w.heap.size w w1) : WS w1 b a cap m st :=
  ⟨by rw [hb.block b h.lt]; exact h.row, h.own.kept (row := none) ⟨hb.os, hb.tape, hb.output, hb.size, fun k hk _ => hb.block k hk⟩ (by cases (Value.slice a st.2.length cap).ownBlock <;> simp), h.fit, h.le⟩

/-- What a call that lays leaves. -/
def WQ (w : World) (b : Nat) (a : Option Addr) (m : Nat) (st : Nat × List UInt8) (w' : World) : Prop := ∃ a' cap', WS w' b a' cap' m st ∧ Step b w a w' a'

set_option maxHeartbeats 400000 in
theorem failed_any (b : Nat) (a : Option Addr) (cap m : Nat) (st : Nat × List UInt8) (w : World) (hw : WS w b a cap m st) :
    Calls Try.prog 83 #[.pointer (some ⟨b, 0, none⟩)] w fun x w' => x = .returned (.bool (decide (st.1 ≠ 0))) ∧ w' = w := by
  have c2 := hw.c2
  obtain ⟨e, l⟩ := st
  simp only at c2
  cases e with
  | zero =>
    go_enter Try.func83, Try.ntmps83
    go_wp2
    go_ret
    exact ⟨rfl, rfl⟩
  | succ n =>
    have hd : (((n + 1 : Nat) : Int) != 0) = true := by simp; omega
    generalize n + 1 = q at *
    go_enter Try.func83, Try.ntmps83
    go_wp2
    go_ret
    refine ⟨?_, rfl⟩
    have : q ≠ 0 := by simpa using hd
    simp [this]
set_option maxHeartbeats 400000 in
theorem failed_nil (w : World) : Calls Try.prog 83 #[.pointer none] w fun x w' => x = .returned (.bool true) ∧ w' = w := by
  go_enter Try.func83, Try.ntmps83
  go_wp2
  go_ret
  exact ⟨rfl, rfl⟩

set_option maxHeartbeats 400000 in
theorem wfail_bad (b : Nat) (a : Option Addr) (cap m : Nat) (st : Nat × List UInt8) (k : Int) (w : World) (hw : WS w b a cap m st) (he : st.1 ≠ 0) :
    Calls Try.prog 84 #[.pointer (some ⟨b, 0, none⟩), .int .i64 k] w fun x w' => x = .returned (.tuple #[]) ∧ w' = w := by
  have hd : decide (st.1 ≠ 0) = true := by simpa using he
  go_enter Try.func84, Try.ntmps84
  go_wp2_with fail
  refine (failed_any b a cap m st w hw).mono ?_
  rintro x w1 ⟨rfl, rfl⟩
  rw [hd]
  go_wp2
  refine bodyPost_ret (results_none rfl _ _ _) rfl ?_
  exact ⟨rfl, rfl⟩
set_option maxHeartbeats 400000 in
theorem wfail_ok (b : Nat) (a : Option Addr) (cap m : Nat) (l : List UInt8) (k : Nat) (w : World) (hw : WS w b a cap m (0, l)) (hk : k ≤ 2) :
    Calls Try.prog 84 #[.pointer (some ⟨b, 0, none⟩), .int .i64 k] w fun x w' => x = .returned (.tuple #[]) ∧ WQ w b a m (k, []) w' := by
  have f1 := hw.free 1
  have f2 := hw.free 2
  have c1 := hw.c1
  have c2 := hw.c2
  have Z : WQ w b a m (k, []) ((w.setCell ⟨b, 2, none⟩ (.int .i64 k)).setCell ⟨b, 1, none⟩ (.slice none 0 0)) := by
    refine ⟨none, 0, ⟨?_, World.ownsRow_nil _ _ _ _, ⟨hk, by simp, fun _ => rfl⟩, hw.le⟩, ⟨rfl, rfl, rfl, by simp, fun j hj hb _ => ?_, fun j ⟨_, _, h⟩ => by cases h⟩⟩
    · have h1 := heap_setCell_same w b 2 _ _ (.int .i64 k) hw.row
      exact heap_setCell_same _ b 1 _ _ (.slice none 0 0) h1
    · rw [heap_setCell_other _ ⟨b, 1, none⟩ j _ hb, heap_setCell_other _ ⟨b, 2, none⟩ j _ hb]
  go_enter Try.func84, Try.ntmps84
  go_wp2_with fail
  refine (failed_any b a cap m (0, l) w hw).mono ?_
  rintro x w1 ⟨rfl, rfl⟩
  go_wp2
  go_end0
  exact ⟨rfl, Z⟩
set_option maxHeartbeats 400000 in
theorem wfail_nil (k : Int) (w : World) : Calls Try.prog 84 #[.pointer none, .int .i64 k] w fun x w' => x = .returned (.tuple #[]) ∧ w' = w := by
  go_enter Try.func84, Try.ntmps84
  go_wp2_with fail
  refine (failed_nil w).mono ?_
  rintro x w1 ⟨rfl, rfl⟩
  go_wp2
  refine bodyPost_ret (results_none rfl _ _ _) rfl ?_
  exact ⟨rfl, rfl⟩

theorem WS.laid {w w1 : World} {b : Nat} {a a' : Option Addr} {cap cap' m : Nat} {l s : List UInt8} (h : WS w b a cap m (0, l)) (hf : ¬ m < l.length + s.length)
    (hown : w1.ownsRow (b + 1) 5 1 (.slice a' (l.length + (ofL s).size) cap') (l.length + (ofL s).size) (vals l ++ Lib.strCells (ofL s))) (hg : w.grownBy w1 (Value.slice a l.length cap).ownBlock) (hat : ∀ k, blk a' k → (Value.slice a l.length cap).ownBlock = some k ∨ k = w.heap.size) :
    WQ w b a m (0, l ++ s) (w1.setCell ⟨b, 1, none⟩ (.slice a' (l.length + (ofL s).size) cap')) := by
  rw [ofL_size, strCells_vals, vals_app] at hown
  rw [ofL_size]
  have hb : w1.heap[b]? = w.heap[b]? := hg.block b h.lt (fun e => by have := h.inb b (blk_own.1 e.symm); omega)
  have hr1 : w1.heap[b]? = some (.cells #[.int .i64 m, .slice a l.length cap, .int .i64 0] 125 (0, 0)) := hb.trans h.row
  have hlt : b < w1.heap.size := Nat.lt_of_lt_of_le h.lt hg.size
  refine ⟨a', cap', ⟨?_, ?_, ⟨by simp, by simp; omega, fun h => absurd rfl h⟩, h.le⟩, ⟨hg.os, hg.tape, hg.output, by simpa using hg.size, fun k hk hb ha => ?_, fun k hk => ?_⟩⟩
  · simp only [List.length_append]
    exact heap_setCell_same w1 b 1 _ _ (.slice a' (l.length + s.length) cap') hr1
  · simp only [List.length_append]
    exact hown.kept (grown_set w1 b 1 _) (by
      cases hv : (Value.slice a' (l.length + s.length) cap').ownBlock with
      | none => exact .inl rfl
      | some k =>
        refine .inr fun e => ?_
        have := (hown.lt k hv).1
        simp at e
        omega)
  · rw [heap_setCell_other _ ⟨b, 1, none⟩ k _ hb]
    exact hg.block k hk (fun e => ha (blk_own.1 e.symm))
  · rcases hat k hk with e | e
    · exact .inl (blk_own.1 e)
    · exact .inr (by omega)

theorem WS.out {w : World} {b : Nat} {a : Option Addr} {cap m : Nat} {st : Nat × List UInt8} (h : WS w b a cap m st) : WQ w b a m st w := ⟨a, cap, h, Step.refl _ _ _⟩

set_option maxHeartbeats 1000000 in
theorem lay_any (b : Nat) (a : Option Addr) (cap m : Nat) (st : Nat × List UInt8) (s : List UInt8) (w : World) (hw : WS w b a cap m st) (hs : s.length ≤ 140737488351232) :
    Calls Try.prog 71 #[.pointer (some ⟨b, 0, none⟩), .string (ofL s)] w fun x w' => x = .returned (.tuple #[]) ∧ WQ w b a m (M.lay m st s) w' := by
  obtain ⟨e, l⟩ := st
  by_cases he : e = 0
  · subst he
    have hle := hw.le
    have hll : l.length ≤ m := hw.fit.2.1
    have c0 := hw.c0
    have c1 := hw.c1
    have f1 := hw.free 1
    simp only at c1
    have hsz := ofL_size s
    by_cases hov : m < l.length + s.length
    · have HL : Hid (_ = _) := M.lay_over m l s hov
      have hd : ((m : Int) - (l.length : Int) < ((ofL s).size : Int)) := by omega
      go_enter Try.func71, Try.ntmps71
      go_wp2_with fail
      refine (failed_any b a cap m (0, l) w hw).mono ?_
      rintro x w1 ⟨rfl, rfl⟩
      generalize hLL : l.length = ln at *
      go_wp2_with fail
      go_quiet (fail)
      go_wp2_with fail
      refine (wfail_ok b a cap m l 2 _ (hw.drewN _) (by decide)).mono ?_
      rintro x w2 ⟨rfl, hq⟩
      go_wp2
      refine bodyPost_ret (results_none rfl _ _ _) rfl ?_
      rw [HL.out]
      obtain ⟨a', cap', h1, h2⟩ := hq
      exact ⟨rfl, a', cap', h1, ((Step.refl b w1 a).drewN _).trans h2⟩
    · have HL : Hid (_ = _) := M.lay_fits m l s hov
      have hd : ¬ ((m : Int) - (l.length : Int) < ((ofL s).size : Int)) := by omega
      have hown := hw.own
      have hlt := hw.lt
      have HF : Hid (¬ m < l.length + s.length) := hov
      clear hov
      go_enter Try.func71, Try.ntmps71
      go_wp2_with fail
      refine (failed_any b a cap m (0, l) w hw).mono ?_
      rintro x w1 ⟨rfl, rfl⟩
      go_wp2_with fail
      go_quiet (fail)
      go_wp2_with (at_builtin; refine wpList_append_str _ rfl _ _ rfl (b + 1) _ l.length (vals l) rfl hown (ofL s) rfl (by omega) (by simp; omega) ?_; intro a' cap' w2 hown2 hg2 hat; have hbk : w2.heap[b]? = w1.heap[b]? := hg2.block b hlt (fun e => by have := hw.inb b (blk_own.1 e.symm); omega); have c12 : w2.cell? ⟨b, 1, none⟩ = some (.slice a l.length cap) := (World.cell?_of_block (w := w1) hbk).trans c1; have f12 : w2.frozen? ⟨b, 1, none⟩ = false := (World.frozen?_of_block (w := w1) hbk).trans f1; have Z := (hw.drewN _).laid HF.out hown2 hg2 hat; clear hown2 hg2 hat hbk)
      go_end0
      rw [HL.out]
      obtain ⟨a2, cap2, h1, h2⟩ := Z
      exact ⟨rfl, a2, cap2, h1, ((Step.refl b w1 a).drewN _).trans h2⟩
  · have HL : Hid (_ = _) := M.lay_bad m (e, l) s he
    have hd : decide (e ≠ 0) = true := by simpa using he
    go_enter Try.func71, Try.ntmps71
    go_wp2_with fail
    refine (failed_any b a cap m (e, l) w hw).mono ?_
    rintro x w1 ⟨rfl, rfl⟩
    rw [hd]
    go_wp2
    refine bodyPost_ret (results_none rfl _ _ _) rfl ?_
    rw [HL.out]
    exact ⟨rfl, hw.out⟩
set_option maxHeartbeats 400000 in
theorem lay_nil (s : ByteArray) (w : World) : Calls Try.prog 71 #[.pointer none, .string s] w fun x w' => x = .returned (.tuple #[]) ∧ w' = w := by
  go_enter Try.func71, Try.ntmps71
  go_wp2_with fail
  refine (failed_nil w).mono ?_
  rintro x w1 ⟨rfl, rfl⟩
  go_wp2
  refine bodyPost_ret (results_none rfl _ _ _) rfl ?_
  exact ⟨rfl, rfl⟩

end Go.Proofs.Ytgcfpihfoekllaa
