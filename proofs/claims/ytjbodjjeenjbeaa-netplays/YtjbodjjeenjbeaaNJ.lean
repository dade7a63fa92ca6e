/-
  slices.Delete of one of what is under way.
-/
import Derived.Test.YtjbodjjeenjbeaaNA
namespace Go.Proofs.Ytjbodjjeenjbeaa
open Go.RowKit
set_option linter.unusedVariables false
open Nt (Pk)

theorem Try.size73 : (Try.prog.info? 73).map (·.size) = some 3 := by kernel_rfl
/-- clear of a part of a row. -/
theorem run_clear3 {P : Program} (w : World) (t e ty : TypeId) (z : Value) (ht : P.underlying t = some (.slice e)) (hv : ∀ w, (zeroValue e).run P w = .ok z w) (hz : z.cells.size = 3) (h1 : ∀ v ∈ z.cells.toList, v.oneCell' = true)
    (g off n c : Nat) (a : Addr) (cur : List Value) (tt : TypeId) (hg : w.heap[g]? = some (.cells cur.toArray tt (0, 0))) (ha : 0 < n → a = ⟨g, off, none⟩) (hfit : off + n * 3 ≤ cur.length) :
    (Builtin.clear_ #[t] ty #[.slice (some a) n c]).run P w = .ok (.tuple #[]) (w.setRow g (splice cur off (Builtin.zeroCells z.cells n).toList).toArray) := by
  rcases Nat.eq_zero_or_pos n with h0 | hp
  · subst h0
    have e0 : (Builtin.zeroCells z.cells 0).toList = [] := List.eq_nil_of_length_eq_zero (by simp [size_zeroCells])
    rw [e0, show splice cur off [] = cur by simp [splice], setRow_self w g _ _ _ hg]
    simp [Builtin.clear_, run_underlying ht]
  · obtain rfl := ha hp
    have hone : ∀ v ∈ (Builtin.zeroCells z.cells n).toList, v.oneCell' = true := by
      intro v hv'
      apply h1
      simp [Builtin.zeroCells] at hv'
      obtain ⟨k, hk, rfl⟩ := hv'
      have hk4 : k % z.cells.size < z.cells.size := Nat.mod_lt _ (by omega)
      rw [getElem!_pos z.cells _ hk4]
      simp
    have hst := run_storeCells_at P g off tt (Builtin.zeroCells z.cells n).toList 0 cur.toArray w hg (by simp [size_zeroCells, hz]; omega) hone
    have hst' : (storeCells ⟨g, off, none⟩ (Builtin.zeroCells z.cells n).toList).run P w = .ok () (w.setRow g (splice cur off (Builtin.zeroCells z.cells n).toList).toArray) := by
      have := hst
      simp only [Nat.add_zero] at this
      simpa [splice] using this
    obtain ⟨k, rfl⟩ : ∃ k, n = k + 1 := ⟨n - 1, by omega⟩
    simp [Builtin.clear_, run_underlying ht, hv, hst']
/-- An append into room of a row that is known whole. -/
theorem run_append_fit3 {P : Program} (w : World) (t ty e : TypeId) (ht : P.underlying t = some (.slice e)) (hs : (P.info? e).map (·.size) = some 3)
    (g k cap : Nat) (sp : Option Addr) (m sc : Nat) (cur : List Value) (tt : TypeId) (cs : List Value) (hg : w.heap[g]? = some (.cells cur.toArray tt (0, 0))) (hn : cs.length = m * 3)
    (hsrc : 0 < m → ∃ ad, sp = some ad ∧ ∀ j v, cs[j]? = some v → w.cell? (ad.add j) = some v) (hfit : k * 3 + cs.length ≤ cur.length) (hroom : k + m ≤ cap) (h1 : ∀ v ∈ cs, v.oneCell' = true) :
    (Builtin.append_ #[t, t] ty #[.slice (some ⟨g, 0, none⟩) k cap, .slice sp m sc]).run P w = .ok (.slice (some ⟨g, 0, none⟩) (k + m) cap) (w.setRow g (splice cur (k * 3) cs).toArray) := by
  cases hq : P.info? e with
  | none => simp [hq] at hs
  | some i =>
    have hi : i.size = 3 := by simpa [hq] using hs
    have hst := run_storeCells_at P g (k * 3) tt cs 0 cur.toArray w hg (by simpa using hfit) h1
    have hst' : (storeCells ⟨g, k * 3, none⟩ cs).run P w = .ok () (w.setRow g (splice cur (k * 3) cs).toArray) := by
      have := hst
      simp only [Nat.add_zero] at this
      simpa [splice] using this
    have hadd : (⟨g, 0, none⟩ : Addr).add (k * 3) = ⟨g, k * 3, none⟩ := by unfold Addr.add; split <;> simp_all
    rcases Nat.eq_zero_or_pos m with h0 | hp
    · subst h0
      obtain rfl : cs = [] := List.eq_nil_of_length_eq_zero (by simpa using hn)
      cases sp with
      | none => simp [Builtin.append_, run_underlying ht, Builtin.lenOf, Builtin.firstCells, sizeOf, typeInfo, hq, hi, hadd, hst', show k ≤ cap by omega]
      | some ad =>
        have hl := run_loadCells_list (P := P) w ad [] (by simp)
        simp at hl
        simp [Builtin.append_, run_underlying ht, Builtin.lenOf, Builtin.firstCells, sizeOf, typeInfo, hq, hi, hadd, hl, hst', show k ≤ cap by omega]
    · obtain ⟨ad, rfl, hc⟩ := hsrc hp
      have hl := run_loadCells_list (P := P) w ad cs hc
      rw [hn] at hl
      simp [Builtin.append_, run_underlying ht, Builtin.lenOf, Builtin.firstCells, sizeOf, typeInfo, hq, hi, hadd, hl, hst', hroom]
theorem splice_at {α : Type} (L A B : List α) (h : L.take A.length = A) : splice L A.length B = A ++ (B ++ L.drop (A.length + B.length)) := by unfold splice; rw [h]
theorem splice_take {α : Type} (L B : List α) (o k : Nat) (h : k ≤ o) (hl : o ≤ L.length) : (splice L o B).take k = L.take k := by
  unfold splice
  rw [List.take_append_of_le_length (by simp; omega), List.take_take, Nat.min_eq_left h]
/-- A row that is known whole. -/
structure Row (w : World) (g cap : Nat) (cur : List Value) (P : List Pk) : Prop where
  h : w.heap[g]? = some (.cells cur.toArray 73 (0, 0))
  le : P.length ≤ cap
  mx : cap ≤ maxLen
  sz : cur.length = cap * 3
  eq : cur.take (P.length * 3) = PC P
theorem Row.own {w : World} {g cap base : Nat} {cur : List Value} {P : List Pk} (h : Row w g cap cur P) (hb : base ≤ g) : OwnP 73 w base (.slice (some ⟨g, 0, none⟩) P.length cap) P :=
  ⟨PC_len P, .inr ⟨g, cap, cur.toArray, rfl, hb, h.h, h.le, h.mx, by simp [h.sz], by simpa using h.eq⟩⟩
theorem OwnP.row {w : World} {base : Nat} {v : Value} {P : List Pk} (h : OwnP 73 w base v P) : (v = .slice none 0 0 ∧ P = []) ∨ ∃ g cap cur, v = .slice (some ⟨g, 0, none⟩) P.length cap ∧ base ≤ g ∧ Row w g cap cur P := by
  rcases h.2 with ⟨hv, h0⟩ | ⟨g, cap, cur, hv, hb, hh, hc, hm, hs, ht⟩
  · exact .inl ⟨hv, List.length_eq_zero_iff.1 h0⟩
  · exact .inr ⟨g, cap, cur.toList, hv, hb, ⟨by simpa using hh, hc, hm, by simpa using hs, ht⟩⟩
theorem Row.at {w : World} {g cap : Nat} {cur : List Value} {P : List Pk} (h : Row w g cap cur P) (i : Nat) : ∀ j v, (PC (P.drop i))[j]? = some v → w.cell? ((⟨g, i * 3, none⟩ : Addr).add j) = some v := by
  intro j v hj
  rw [← PC_drop, List.getElem?_drop, ← h.eq, List.getElem?_take] at hj
  split at hj
  · rw [show ((⟨g, i * 3, none⟩ : Addr).add j) = ⟨g, i * 3 + j, none⟩ by unfold Addr.add; split <;> simp_all, cell_of_row w g (i * 3 + j) _ _ _ h.h]
    simpa using hj
  · cases hj
theorem Row.free {w : World} {g cap : Nat} {cur : List Value} {P : List Pk} (h : Row w g cap cur P) (j : Nat) : w.frozen? ⟨g, j, none⟩ = false := frozen_of_row w g j _ _ h.h
theorem Row.pre {w : World} {g cap : Nat} {cur : List Value} {P : List Pk} (h : Row w g cap cur P) (i : Nat) (hi : i ≤ P.length) : cur.take (i * 3) = PC (P.take i) := by
  rw [← PC_take, ← h.eq, List.take_take, Nat.min_eq_left (by omega)]
theorem grown_setRow (w : World) (g : Nat) (cs : Array Value) : w.grownBy (w.setRow g cs) (some g) := ⟨rfl, rfl, rfl, by simp [World.setRow], fun k hk hne => setRow_other w g k cs (fun e => hne (by rw [e]))⟩
theorem wpList_clear_runI {P : Program} (w : World) {ops : Array Oper} {rest : List Oper} {o : Oper} {a : Act} {Q : Exit → Act → World → Prop} (hgd : o.guard = none) (d : Operand) (t : TypeId)
    (ho : o.op = .call { callee := .builtin .clear, args := #[d], argTypes := #[t] }) (v : Value) (hd : a.eval d = v) {v' : Value} {w' : World}
    (hr : (Builtin.clear_ #[t] o.type #[v]).run P w = .ok v' w') (h : wpList P ops Q rest (a.put o.dst v') w') : wpList P ops Q (o :: rest) a w :=
  wpList_plain hgd fun _ hK => by
    unfold Oper.wp execOp
    simp only [ho, resolve, invoke, builtin, Sem.run_bind, Sem.run_pure, Result.andThen_ok, List.map_toArray, List.map_cons, List.map_nil, hd, hr]
    exact hK _ _ h
theorem zv73 (w : World) : (zeroValue 73).run Try.prog w = .ok (.agg #[.int .i64 0, .int .i64 0, .string ⟨#[]⟩]) w := by simp
/-- The row g alone has changed. -/
structure InG (w w' : World) (g : Nat) : Prop where
  g : w.grownBy w' (some g)
theorem InG.refl (w : World) (g : Nat) : InG w w g := ⟨⟨rfl, rfl, rfl, Nat.le_refl _, fun _ _ _ => rfl⟩⟩
theorem InG.set {w w1 : World} {g : Nat} (h : InG w w1 g) (cs : Array Value) : InG w (w1.setRow g cs) g := by
  have g2 := grown_setRow w1 g cs
  exact ⟨⟨h.g.os, h.g.tape, h.g.output, Nat.le_trans h.g.size g2.size, fun k hk hn => (g2.block k (Nat.lt_of_lt_of_le hk h.g.size) hn).trans (h.g.block k hk hn)⟩⟩
theorem InG.drew {w w1 : World} {g : Nat} (h : InG w w1 g) : InG w w1.drew g := ⟨⟨h.g.os, h.g.tape, h.g.output, h.g.size, h.g.block⟩⟩
theorem InG.rw {w w1 : World} {g n c n' c' : Nat} (h : InG w w1 g) : Rw w (.slice (some ⟨g, 0, none⟩) n c) w1 (.slice (some ⟨g, 0, none⟩) n' c') := ⟨h.g, fun k hk => .inl hk⟩

def InsOut (w : World) (base : Nat) (v : Value) (l : List Pk) (x : Ending) (w' : World) : Prop := ∃ v', x = .returned v' ∧ OwnP 73 w' base v' l ∧ Rw w v w' v'
set_option maxHeartbeats 4000000 in
set_option maxRecDepth 100000 in
theorem delete_row {w : World} {g cap base : Nat} {cur : List Value} {P : List Pk} (i : Nat) (hbg : base ≤ g) (hr : Row w g cap cur P) (hi : i < P.length) (hP : P.length ≤ 1000000) :
    Calls Try.prog 55 #[.slice (some ⟨g, 0, none⟩) P.length cap, .int .i64 i, .int .i64 ((i : Int) + 1)] w (InsOut w base (.slice (some ⟨g, 0, none⟩) P.length cap) (P.take i ++ P.drop (i + 1))) := by
  have hmx : cap ≤ 9223372036854775807 := by have := hr.mx; unfold maxLen at this; omega
  have hsz := hr.sz
  have hle := hr.le
  have hdl : (PC (P.drop (i + 1))).length = (P.length - (i + 1)) * 3 := by rw [PC_len, List.length_drop]
  have hpl := PC_tl P i (by omega)
  obtain ⟨t, ht'⟩ : ∃ t, i + (P.length - (i + 1)) = t := ⟨_, rfl⟩
  have htn : t = P.length - 1 := by omega
  have HAP : Hid (∀ sp sc, (0 < P.length - (i + 1) → sp = some ⟨g, (i + 1) * 3, none⟩) → ∀ ty, (Builtin.append_ #[59, 59] ty #[.slice (some ⟨g, 0, none⟩) i cap, .slice sp (P.length - (i + 1)) sc]).run Try.prog w.drew = .ok (.slice (some ⟨g, 0, none⟩) t cap) (w.drew.setRow g (splice cur (i * 3) (PC (P.drop (i + 1)))).toArray)) := by
    intro sp sc hsp ty
    rw [← ht']
    exact run_append_fit3 w.drew 59 ty 73 Try.underlying59 Try.size73 g i cap sp (P.length - (i + 1)) sc cur 73 (PC (P.drop (i + 1))) hr.h hdl (fun h => ⟨_, hsp h, hr.at (i + 1)⟩) (by rw [hdl, hsz]; omega) (by omega) (PC_one _)
  have hl1 : (splice cur (i * 3) (PC (P.drop (i + 1)))).length = cap * 3 := by rw [length_splice _ _ _ (by rw [hdl, hsz]; omega), hsz]
  have ht1 : (splice cur (i * 3) (PC (P.drop (i + 1)))).take (t * 3) = PC (P.take i ++ P.drop (i + 1)) := by
    have h1 := splice_at cur (PC (P.take i)) (PC (P.drop (i + 1))) (by rw [hpl]; exact hr.pre i (by omega))
    rw [hpl] at h1
    rw [h1, ← List.append_assoc, List.take_append_of_le_length (by simp only [List.length_append]; rw [hpl, hdl]; omega), List.take_of_length_le (by simp only [List.length_append]; rw [hpl, hdl]; omega), PC_app]
  obtain ⟨c1, hc1⟩ : ∃ c1, splice cur (i * 3) (PC (P.drop (i + 1))) = c1 := ⟨_, rfl⟩
  rw [hc1] at HAP hl1 ht1
  obtain ⟨W1, hW1⟩ : ∃ W1, w.drew.setRow g c1.toArray = W1 := ⟨_, rfl⟩
  rw [hW1] at HAP
  have hh1 : W1.heap[g]? = some (.cells c1.toArray 73 (0, 0)) := by rw [← hW1]; exact setRow_heap w.drew g _ _ _ _ hr.h
  have hG : InG w W1 g := by rw [← hW1]; exact (InG.refl w g).drew.set _
  obtain ⟨W3, hW3⟩ : ∃ W3, W1.setRow g (splice c1 (t * 3) (Builtin.zeroCells (Value.agg #[.int .i64 0, .int .i64 0, .string ⟨#[]⟩]).cells (P.length - t)).toList).toArray = W3 := ⟨_, rfl⟩
  have hzl : (Builtin.zeroCells (Value.agg #[.int .i64 0, .int .i64 0, .string ⟨#[]⟩]).cells (P.length - t)).toList.length = (P.length - t) * 3 := by simp [size_zeroCells, Value.cells]
  have hcl : ∀ ty c, (Builtin.clear_ #[59] ty #[.slice (some ⟨g, t * 3, none⟩) (P.length - t) c]).run Try.prog W1 = .ok (.tuple #[]) W3 := by
    intro ty c
    rw [← hW3]
    exact run_clear3 (P := Try.prog) W1 59 73 ty _ Try.underlying59 zv73 rfl (by simp [Value.cells]; exact ⟨rfl, rfl⟩) g (t * 3) (P.length - t) c ⟨g, t * 3, none⟩ c1 73 hh1 (fun _ => rfl) (by rw [hl1]; omega)
  have HK : Hid (InsOut w base (.slice (some ⟨g, 0, none⟩) P.length cap) (P.take i ++ P.drop (i + 1)) (.returned (.slice (some ⟨g, 0, none⟩) t cap)) W3) := by
    have hl3 : (P.take i ++ P.drop (i + 1)).length = t := by simp; omega
    rw [← hW3]
    refine ⟨_, rfl, ?_, (hG.set _).rw⟩
    have key : OwnP 73 (W1.setRow g (splice c1 (t * 3) (Builtin.zeroCells (Value.agg #[.int .i64 0, .int .i64 0, .string ⟨#[]⟩]).cells (P.length - t)).toList).toArray) base (.slice (some ⟨g, 0, none⟩) (P.take i ++ P.drop (i + 1)).length cap) (P.take i ++ P.drop (i + 1)) :=
      Row.own ⟨setRow_heap W1 g _ _ _ _ hh1, by rw [hl3]; omega, hr.mx, by rw [length_splice _ _ _ (by rw [hzl, hl1]; omega), hl1], by rw [hl3, splice_take _ _ _ _ (Nat.le_refl _) (by rw [hl1]; omega)]; exact ht1⟩ hbg
    rw [hl3] at key
    exact key
  generalize (P.take i ++ P.drop (i + 1)) = RR at *
  generalize hn' : P.length = n at *
  have hz1 : ¬ ((i : Int) = (i : Int) + 1) := by omega
  have hb1 : (0 : Int) ≤ (i : Int) + 1 := by omega
  have hb2 : (i : Int) + 1 ≤ (n : Int) := by omega
  have hb3 : ((i : Int) + 1).toNat = i + 1 := by omega
  have hb4 : i ≤ n := by omega
  have hb5 : i + 1 ≤ n := by omega
  have hb6 : t ≤ n := by omega
  have hb7 : t ≤ cap := by omega
  have hb8 : (t : Int) ≤ (n : Int) := by omega
  have hb9 : ¬ (cap = t) := by omega
  have hb10 : ¬ (n = i) := by omega
  have hb11 : i ≤ cap := by omega
  clear hr hh1 hl1 hc1 hW1 hdl hsz hn' ht1 ht' hG hW3 hzl hpl
  by_cases hct : cap = i + 1
  · have hrun := HAP.out (some ⟨g, 0, none⟩) 0 (fun h => by omega)
    have hni : n = i + 1 := by omega
    subst hct
    subst hni
    have hti : t = i := by omega
    subst hti
    rw [Nat.sub_self] at hrun
    rw [show t + 1 - t = 1 by omega] at hcl
    have hb12 : (t : Int) ≤ (t : Int) + 1 := by omega
    clear htn HAP
    go_enter Try.func55, Try.ntmps55
    go_wp2_with fail
    go_region_law (refine step_append_run rfl _ _ 59 rfl _ _ (by simp [Act.eval, Act.put]) (by simp [Act.eval, Act.put]) _ _ (hrun _) ?_)
    all_goals
      go_wp2_with (at_builtin; refine wpList_clear_runI _ rfl _ 59 rfl _ rfl (hcl _ _) ?_)
      go_ret
      exact HK.out
  · have hrun := HAP.out (some ⟨g, (i + 1) * 3, none⟩) (cap - (i + 1)) (fun h => rfl)
    clear htn HAP
    go_enter Try.func55, Try.ntmps55
    go_wp2_with fail
    go_region_law (refine step_append_run rfl _ _ 59 rfl _ _ (by simp [Act.eval, Act.put]) (by simp [Act.eval, Act.put]) _ _ (hrun _) ?_)
    all_goals
      go_wp2_with (at_builtin; refine wpList_clear_runI _ rfl _ 59 rfl _ rfl (hcl _ _) ?_)
      go_ret
      exact HK.out
end Go.Proofs.Ytjbodjjeenjbeaa
