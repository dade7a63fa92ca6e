/-
  slices.Delete of one of the open calls.
-/
import Derived.Test.YtbgbdiiinggjnaaWA
import Derived.Test.YtbgbdiiinggjnaaJ
namespace Go.Proofs.Ytbgbdiiinggjnaa
open Go.RowKit
set_option linter.unusedVariables false
open Cl (K W Ms)

/-- The cells of open calls. -/
abbrev WC (l : List W) : List Value := wl.cells l
theorem WC_len (l : List W) : (WC l).length = l.length * 5 := wl.clen l
theorem WC_take (l : List W) (k : Nat) : (WC l).take (k * 5) = WC (l.take k) := wl.take l k
theorem WC_drop (l : List W) (k : Nat) : (WC l).drop (k * 5) = WC (l.drop k) := wl.drop l k
theorem WC_one (l : List W) : ∀ v ∈ WC l, v.oneCell' = true := wl.ones l
theorem WC_app (l q : List W) : WC (l ++ q) = WC l ++ WC q := wl.app l q
theorem WC_tl (L : List W) (i : Nat) (hi : i ≤ L.length) : (WC (L.take i)).length = i * 5 := by rw [WC_len, List.length_take, Nat.min_eq_left hi]
theorem Try.size74 : (Try.prog.info? 74).map (·.size) = some 5 := by kernel_rfl
/-- clear of a part of a row. -/
theorem run_clear5 {P : Program} (w : World) (t e ty : TypeId) (z : Value) (ht : P.underlying t = some (.slice e)) (hv : ∀ w, (zeroValue e).run P w = .ok z w) (hz : z.cells.size = 5) (h1 : ∀ v ∈ z.cells.toList, v.oneCell' = true)
    (g off n c : Nat) (a : Addr) (cur : List Value) (tt : TypeId) (hg : w.heap[g]? = some (.cells cur.toArray tt (0, 0))) (ha : 0 < n → a = ⟨g, off, none⟩) (hfit : off + n * 5 ≤ cur.length) :
    (Builtin.clear_ #[t] ty #[.slice (some a) n c]).run P w = .ok (.tuple #[]) (w.setRow g (splice cur off (Builtin.zeroCells z.cells n).toList).toArray) := by
  rcases Nat.eq_zero_or_pos n with h0 | hp
  · subst h0
    have e0 : (Builtin.zeroCells z.cells 0).toList = [] := List.eq_nil_of_length_eq_zero (by simp [size_zeroCells])
    rw [e0, show splice cur off [] = cur by simp [splice], setRow_self w g _ _ _ hg]
    simp [Builtin.clear_, run_underlying ht]
  · obtain rfl := ha hp
    have hone : ∀ v ∈ (Builtin.zeroCells z.cells n).toList, v.oneCell' = true := by
      intro v hv'
      apply h1
      simp [Builtin.zeroCells] at hv'
      obtain ⟨k, hk, rfl⟩ := hv'
      have hk4 : k % z.cells.size < z.cells.size := Nat.mod_lt _ (by omega)
      rw [getElem!_pos z.cells _ hk4]
      simp
    have hst := run_storeCells_at P g off tt (Builtin.zeroCells z.cells n).toList 0 cur.toArray w hg (by simp [size_zeroCells, hz]; omega) hone
    have hst' : (storeCells ⟨g, off, none⟩ (Builtin.zeroCells z.cells n).toList).run P w = .ok () (w.setRow g (splice cur off (Builtin.zeroCells z.cells n).toList).toArray) := by
      have := hst
      simp only [Nat.add_zero] at this
      simpa [splice] using this
    obtain ⟨k, rfl⟩ : ∃ k, n = k + 1 := ⟨n - 1, by omega⟩
    simp [Builtin.clear_, run_underlying ht, hv, hst']
/-- An append into room of a row that is known whole. -/
theorem run_append_fit5 {P : Program} (w : World) (t ty e : TypeId) (ht : P.underlying t = some (.slice e)) (hs : (P.info? e).map (·.size) = some 5)
    (g k cap : Nat) (sp : Option Addr) (m sc : Nat) (cur : List Value) (tt : TypeId) (cs : List Value) (hg : w.heap[g]? = some (.cells cur.toArray tt (0, 0))) (hn : cs.length = m * 5)
    (hsrc : 0 < m → ∃ ad, sp = some ad ∧ ∀ j v, cs[j]? = some v → w.cell? (ad.add j) = some v) (hfit : k * 5 + cs.length ≤ cur.length) (hroom : k + m ≤ cap) (h1 : ∀ v ∈ cs, v.oneCell' = true) :
    (Builtin.append_ #[t, t] ty #[.slice (some ⟨g, 0, none⟩) k cap, .slice sp m sc]).run P w = .ok (.slice (some ⟨g, 0, none⟩) (k + m) cap) (w.setRow g (splice cur (k * 5) cs).toArray) := by
  cases hq : P.info? e with
  | none => simp [hq] at hs
  | some i =>
    have hi : i.size = 5 := by simpa [hq] using hs
    have hst := run_storeCells_at P g (k * 5) tt cs 0 cur.toArray w hg (by simpa using hfit) h1
    have hst' : (storeCells ⟨g, k * 5, none⟩ cs).run P w = .ok () (w.setRow g (splice cur (k * 5) cs).toArray) := by
      have := hst
      simp only [Nat.add_zero] at this
      simpa [splice] using this
    have hadd : (⟨g, 0, none⟩ : Addr).add (k * 5) = ⟨g, k * 5, none⟩ := by unfold Addr.add; split <;> simp_all
    rcases Nat.eq_zero_or_pos m with h0 | hp
    · subst h0
      obtain rfl : cs = [] := List.eq_nil_of_length_eq_zero (by simpa using hn)
      cases sp with
      | none => simp [Builtin.append_, run_underlying ht, Builtin.lenOf, Builtin.firstCells, sizeOf, typeInfo, hq, hi, hadd, hst', show k ≤ cap by omega]
      | some ad =>
        have hl := run_loadCells_list (P := P) w ad [] (by simp)
        simp at hl
        simp [Builtin.append_, run_underlying ht, Builtin.lenOf, Builtin.firstCells, sizeOf, typeInfo, hq, hi, hadd, hl, hst', show k ≤ cap by omega]
    · obtain ⟨ad, rfl, hc⟩ := hsrc hp
      have hl := run_loadCells_list (P := P) w ad cs hc
      rw [hn] at hl
      simp [Builtin.append_, run_underlying ht, Builtin.lenOf, Builtin.firstCells, sizeOf, typeInfo, hq, hi, hadd, hl, hst', hroom]


/-- A row that is known whole. -/
structure RowW (w : World) (g cap : Nat) (cur : List Value) (P : List W) : Prop where
  h : w.heap[g]? = some (.cells cur.toArray 74 (0, 0))
  le : P.length ≤ cap
  mx : cap ≤ maxLen
  sz : cur.length = cap * 5
  eq : cur.take (P.length * 5) = WC P
theorem RowW.own {w : World} {g cap base : Nat} {cur : List Value} {P : List W} (h : RowW w g cap cur P) (hb : base ≤ g) : OwnL wl 74 w base (.slice (some ⟨g, 0, none⟩) P.length cap) P :=
  ⟨WC_len P, .inr ⟨g, cap, cur.toArray, rfl, hb, h.h, h.le, h.mx, by rw [List.size_toArray]; exact h.sz, by rw [List.toList_toArray]; exact h.eq⟩⟩
theorem OwnL.rowW {w : World} {base : Nat} {v : Value} {P : List W} (h : OwnL wl 74 w base v P) : (v = .slice none 0 0 ∧ P = []) ∨ ∃ g cap cur, v = .slice (some ⟨g, 0, none⟩) P.length cap ∧ base ≤ g ∧ RowW w g cap cur P := by
  rcases h.2 with ⟨hv, h0⟩ | ⟨g, cap, cur, hv, hb, hh, hc, hm, hs, ht⟩
  · exact .inl ⟨hv, List.length_eq_zero_iff.1 h0⟩
  · exact .inr ⟨g, cap, cur.toList, hv, hb, ⟨by simpa using hh, hc, hm, by rw [Array.length_toList]; exact hs, ht⟩⟩
theorem RowW.at {w : World} {g cap : Nat} {cur : List Value} {P : List W} (h : RowW w g cap cur P) (i : Nat) : ∀ j v, (WC (P.drop i))[j]? = some v → w.cell? ((⟨g, i * 5, none⟩ : Addr).add j) = some v := by
  intro j v hj
  rw [← WC_drop, List.getElem?_drop, ← h.eq, List.getElem?_take] at hj
  split at hj
  · rw [show ((⟨g, i * 5, none⟩ : Addr).add j) = ⟨g, i * 5 + j, none⟩ by unfold Addr.add; split <;> simp_all, cell_of_row w g (i * 5 + j) _ _ _ h.h]
    simpa using hj
  · cases hj
theorem RowW.free {w : World} {g cap : Nat} {cur : List Value} {P : List W} (h : RowW w g cap cur P) (j : Nat) : w.frozen? ⟨g, j, none⟩ = false := frozen_of_row w g j _ _ h.h
theorem RowW.pre {w : World} {g cap : Nat} {cur : List Value} {P : List W} (h : RowW w g cap cur P) (i : Nat) (hi : i ≤ P.length) : cur.take (i * 5) = WC (P.take i) := by
  rw [← WC_take, ← h.eq, List.take_take, Nat.min_eq_left (by omega)]


theorem zv74 (w : World) : (zeroValue 74).run Try.prog w = .ok (.agg #[.int .i64 0, .int .i64 0, .int .i64 0, .int .i64 0, .string ⟨#[]⟩]) w := by simp






def InsW (w : World) (base : Nat) (v : Value) (l : List W) (x : Ending) (w' : World) : Prop := ∃ v', x = .returned v' ∧ OwnL wl 74 w' base v' l ∧ Rw w v w' v'
set_option maxHeartbeats 4000000 in
set_option maxRecDepth 100000 in
theorem deleteW {w : World} {g cap base : Nat} {cur : List Value} {P : List W} (i : Nat) (hbg : base ≤ g) (hr : RowW w g cap cur P) (hi : i < P.length) (hP : P.length ≤ 1000000) :
    Calls Try.prog 46 #[.slice (some ⟨g, 0, none⟩) P.length cap, .int .i64 i, .int .i64 ((i : Int) + 1)] w (InsW w base (.slice (some ⟨g, 0, none⟩) P.length cap) (P.take i ++ P.drop (i + 1))) := by
  have hmx : cap ≤ 9223372036854775807 := by have := hr.mx; unfold maxLen at this; omega
  have hsz := hr.sz
  have hle := hr.le
  have hdl : (WC (P.drop (i + 1))).length = (P.length - (i + 1)) * 5 := by rw [WC_len, List.length_drop]
  have hpl := WC_tl P i (by omega)
  obtain ⟨t, ht'⟩ : ∃ t, i + (P.length - (i + 1)) = t := ⟨_, rfl⟩
  have htn : t = P.length - 1 := by omega
  have HAP : Hid (∀ sp sc, (0 < P.length - (i + 1) → sp = some ⟨g, (i + 1) * 5, none⟩) → ∀ ty, (Builtin.append_ #[64, 64] ty #[.slice (some ⟨g, 0, none⟩) i cap, .slice sp (P.length - (i + 1)) sc]).run Try.prog w.drew = .ok (.slice (some ⟨g, 0, none⟩) t cap) (w.drew.setRow g (splice cur (i * 5) (WC (P.drop (i + 1)))).toArray)) := by
    intro sp sc hsp ty
    rw [← ht']
    exact run_append_fit5 w.drew 64 ty 74 Try.underlying64 Try.size74 g i cap sp (P.length - (i + 1)) sc cur 74 (WC (P.drop (i + 1))) hr.h hdl (fun h => ⟨_, hsp h, hr.at (i + 1)⟩) (by rw [hdl, hsz]; omega) (by omega) (WC_one _)
  have hl1 : (splice cur (i * 5) (WC (P.drop (i + 1)))).length = cap * 5 := by rw [length_splice _ _ _ (by rw [hdl, hsz]; omega), hsz]
  have ht1 : (splice cur (i * 5) (WC (P.drop (i + 1)))).take (t * 5) = WC (P.take i ++ P.drop (i + 1)) := by
    have h1 := splice_at cur (WC (P.take i)) (WC (P.drop (i + 1))) (by rw [hpl]; exact hr.pre i (by omega))
    rw [hpl] at h1
    rw [h1, ← List.append_assoc, List.take_append_of_le_length (by simp only [List.length_append]; rw [hpl, hdl]; omega), List.take_of_length_le (by simp only [List.length_append]; rw [hpl, hdl]; omega), WC_app]
  obtain ⟨c1, hc1⟩ : ∃ c1, splice cur (i * 5) (WC (P.drop (i + 1))) = c1 := ⟨_, rfl⟩
  rw [hc1] at HAP hl1 ht1
  obtain ⟨W1, hW1⟩ : ∃ W1, w.drew.setRow g c1.toArray = W1 := ⟨_, rfl⟩
  rw [hW1] at HAP
  have hh1 : W1.heap[g]? = some (.cells c1.toArray 74 (0, 0)) := by rw [← hW1]; exact setRow_heap w.drew g _ _ _ _ hr.h
  have hG : InG w W1 g := by rw [← hW1]; exact (InG.refl w g).drew.set _
  obtain ⟨W3, hW3⟩ : ∃ W3, W1.setRow g (splice c1 (t * 5) (Builtin.zeroCells (Value.agg #[.int .i64 0, .int .i64 0, .int .i64 0, .int .i64 0, .string ⟨#[]⟩]).cells (P.length - t)).toList).toArray = W3 := ⟨_, rfl⟩
  have hzl : (Builtin.zeroCells (Value.agg #[.int .i64 0, .int .i64 0, .int .i64 0, .int .i64 0, .string ⟨#[]⟩]).cells (P.length - t)).toList.length = (P.length - t) * 5 := by simp [size_zeroCells, Value.cells]
  have hcl : ∀ ty c, (Builtin.clear_ #[64] ty #[.slice (some ⟨g, t * 5, none⟩) (P.length - t) c]).run Try.prog W1 = .ok (.tuple #[]) W3 := by
    intro ty c
    rw [← hW3]
    exact run_clear5 (P := Try.prog) W1 64 74 ty _ Try.underlying64 zv74 rfl (by simp [Value.cells]; exact ⟨rfl, rfl⟩) g (t * 5) (P.length - t) c ⟨g, t * 5, none⟩ c1 74 hh1 (fun _ => rfl) (by rw [hl1]; omega)
  have HK : Hid (InsW w base (.slice (some ⟨g, 0, none⟩) P.length cap) (P.take i ++ P.drop (i + 1)) (.returned (.slice (some ⟨g, 0, none⟩) t cap)) W3) := by
    have hl3 : (P.take i ++ P.drop (i + 1)).length = t := by simp; omega
    rw [← hW3]
    refine ⟨_, rfl, ?_, (hG.set _).rw⟩
    have key : OwnL wl 74 (W1.setRow g (splice c1 (t * 5) (Builtin.zeroCells (Value.agg #[.int .i64 0, .int .i64 0, .int .i64 0, .int .i64 0, .string ⟨#[]⟩]).cells (P.length - t)).toList).toArray) base (.slice (some ⟨g, 0, none⟩) (P.take i ++ P.drop (i + 1)).length cap) (P.take i ++ P.drop (i + 1)) :=
      RowW.own ⟨setRow_heap W1 g _ _ _ _ hh1, by rw [hl3]; omega, hr.mx, by rw [length_splice _ _ _ (by rw [hzl, hl1]; omega), hl1], by rw [hl3, splice_take _ _ _ _ (Nat.le_refl _) (by rw [hl1]; omega)]; exact ht1⟩ hbg
    rw [hl3] at key
    exact key
  generalize (P.take i ++ P.drop (i + 1)) = RR at *
  generalize hn' : P.length = n at *
  have hz1 : ¬ ((i : Int) = (i : Int) + 1) := by omega
  have hb1 : (0 : Int) ≤ (i : Int) + 1 := by omega
  have hb2 : (i : Int) + 1 ≤ (n : Int) := by omega
  have hb3 : ((i : Int) + 1).toNat = i + 1 := by omega
  have hb4 : i ≤ n := by omega
  have hb5 : i + 1 ≤ n := by omega
  have hb6 : t ≤ n := by omega
  have hb7 : t ≤ cap := by omega
  have hb8 : (t : Int) ≤ (n : Int) := by omega
  have hb9 : ¬ (cap = t) := by omega
  have hb10 : ¬ (n = i) := by omega
  have hb11 : i ≤ cap := by omega
  clear hr hh1 hl1 hc1 hW1 hdl hsz hn' ht1 ht' hG hW3 hzl hpl
  by_cases hct : cap = i + 1
  · have hrun := HAP.out (some ⟨g, 0, none⟩) 0 (fun h => by omega)
    have hni : n = i + 1 := by omega
    subst hct
    subst hni
    have hti : t = i := by omega
    subst hti
    rw [Nat.sub_self] at hrun
    rw [show t + 1 - t = 1 by omega] at hcl
    have hb12 : (t : Int) ≤ (t : Int) + 1 := by omega
    clear htn HAP
    go_enter Try.func46, Try.ntmps46
    go_wp2_with fail
    go_region_law (refine step_append_run rfl _ _ 64 rfl _ _ (by simp [Act.eval, Act.put]) (by simp [Act.eval, Act.put]) _ _ (hrun _) ?_)
    all_goals
      go_wp2_with (at_builtin; refine wpList_clear_runI _ rfl _ 64 rfl _ rfl (hcl _ _) ?_)
      go_ret
      exact HK.out
  · have hrun := HAP.out (some ⟨g, (i + 1) * 5, none⟩) (cap - (i + 1)) (fun h => rfl)
    clear htn HAP
    go_enter Try.func46, Try.ntmps46
    go_wp2_with fail
    go_region_law (refine step_append_run rfl _ _ 64 rfl _ _ (by simp [Act.eval, Act.put]) (by simp [Act.eval, Act.put]) _ _ (hrun _) ?_)
    all_goals
      go_wp2_with (at_builtin; refine wpList_clear_runI _ rfl _ 64 rfl _ rfl (hcl _ _) ?_)
      go_ret
      exact HK.out
end Go.Proofs.Ytbgbdiiinggjnaa
