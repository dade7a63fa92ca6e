/-
  slices.Delete of one of the notes under way.
-/
import Derived.Test.YtgodnpngdbelhaaG18
import Derived.Test.YtgodnpngdbelhaaG26
namespace Go.Proofs.Ytgodnpngdbelhaa
open Go.RowKit Go.Maps
set_option linter.unusedVariables false
open M (E V)
open Rm (NT R)
open Na

/-- The cells of open calls. -/
abbrev WC (l : List RN) : List Value := nl.cells l
theorem WC_len (l : List RN) : (WC l).length = l.length * 7 := nl.clen l
theorem WC_take (l : List RN) (k : Nat) : (WC l).take (k * 7) = WC (l.take k) := nl.take l k
theorem WC_drop (l : List RN) (k : Nat) : (WC l).drop (k * 7) = WC (l.drop k) := nl.drop l k
theorem WC_one (l : List RN) : ∀ v ∈ WC l, v.oneCell' = true := nl.ones l
theorem WC_app (l q : List RN) : WC (l ++ q) = WC l ++ WC q := nl.app l q
theorem WC_tl (L : List RN) (i : Nat) (hi : i ≤ L.length) : (WC (L.take i)).length = i * 7 := by rw [WC_len, List.length_take, Nat.min_eq_left hi]
theorem Try.size63 : (Try.prog.info? 63).map (·.size) = some 7 := by kernel_rfl
/-- clear of a part of a row. -/
theorem run_clear7 {P : Program} (w : World) (t e ty : TypeId) (z : Value) (ht : P.underlying t = some (.slice e)) (hv : ∀ w, (zeroValue e).run P w = .ok z w) (hz : z.cells.size = 7) (h1 : ∀ v ∈ z.cells.toList, v.oneCell' = true)
    (g off n c : Nat) (a : Addr) (cur : List Value) (tt : TypeId) (hg : w.heap[g]? = some (.cells cur.toArray tt (0, 0))) (ha : 0 < n → a = ⟨g, off, none⟩) (hfit : off + n * 7 ≤ cur.length) :
    (Builtin.clear_ #[t] ty #[.slice (some a) n c]).run P w = .ok (.tuple #[]) (w.setRow g (splice cur off (Builtin.zeroCells z.cells n).toList).toArray) := by
  rcases Nat.eq_zero_or_pos n with h0 | hp
  · subst h0
    have e0 : (Builtin.zeroCells z.cells 0).toList = [] := List.eq_nil_of_length_eq_zero (by simp [size_zeroCells])
    rw [e0, show splice cur off [] = cur by simp [splice], setRow_self w g _ _ _ hg]
    simp [Builtin.clear_, run_underlying ht]
  · obtain rfl := ha hp
    have hone : ∀ v ∈ (Builtin.zeroCells z.cells n).toList, v.oneCell' = true := by
      intro v hv'
      apply h1
      simp [Builtin.zeroCells] at hv'
      obtain ⟨k, hk, rfl⟩ := hv'
      have hk4 : k % z.cells.size < z.cells.size := Nat.mod_lt _ (by omega)
      rw [getElem!_pos z.cells _ hk4]
      simp
    have hst := run_storeCells_at P g off tt (Builtin.zeroCells z.cells n).toList 0 cur.toArray w hg (by simp [size_zeroCells, hz]; omega) hone
    have hst' : (storeCells ⟨g, off, none⟩ (Builtin.zeroCells z.cells n).toList).run P w = .ok () (w.setRow g (splice cur off (Builtin.zeroCells z.cells n).toList).toArray) := by
      have := hst
      simp only [Nat.add_zero] at this
      simpa [splice] using this
    obtain ⟨k, rfl⟩ : ∃ k, n = k + 1 := ⟨n - 1, by omega⟩
    simp [Builtin.clear_, run_underlying ht, hv, hst']
/-- An append into room of a row that is known whole. -/
theorem run_append_fit7 {P : Program} (w : World) (t ty e : TypeId) (ht : P.underlying t = some (.slice e)) (hs : (P.info? e).map (·.size) = some 7)
    (g k cap : Nat) (sp : Option Addr) (m sc : Nat) (cur : List Value) (tt : TypeId) (cs : List Value) (hg : w.heap[g]? = some (.cells cur.toArray tt (0, 0))) (hn : cs.length = m * 7)
    (hsrc : 0 < m → ∃ ad, sp = some ad ∧ ∀ j v, cs[j]? = some v → w.cell? (ad.add j) = some v) (hfit : k * 7 + cs.length ≤ cur.length) (hroom : k + m ≤ cap) (h1 : ∀ v ∈ cs, v.oneCell' = true) :
    (Builtin.append_ #[t, t] ty #[.slice (some ⟨g, 0, none⟩) k cap, .slice sp m sc]).run P w = .ok (.slice (some ⟨g, 0, none⟩) (k + m) cap) (w.setRow g (splice cur (k * 7) cs).toArray) := by
  cases hq : P.info? e with
  | none => simp [hq] at hs
  | some i =>
    have hi : i.size = 7 := by simpa [hq] using hs
    have hst := run_storeCells_at P g (k * 7) tt cs 0 cur.toArray w hg (by simpa using hfit) h1
    have hst' : (storeCells ⟨g, k * 7, none⟩ cs).run P w = .ok () (w.setRow g (splice cur (k * 7) cs).toArray) := by
      have := hst
      simp only [Nat.add_zero] at this
      simpa [splice] using this
    have hadd : (⟨g, 0, none⟩ : Addr).add (k * 7) = ⟨g, k * 7, none⟩ := by unfold Addr.add; split <;> simp_all
    rcases Nat.eq_zero_or_pos m with h0 | hp
    · subst h0
      obtain rfl : cs = [] := List.eq_nil_of_length_eq_zero (by simpa using hn)
      cases sp with
      | none => simp [Builtin.append_, run_underlying ht, Builtin.lenOf, Builtin.firstCells, sizeOf, typeInfo, hq, hi, hadd, hst', show k ≤ cap by omega]
      | some ad =>
        have hl := run_loadCells_list (P := P) w ad [] (by simp)
        simp at hl
        simp [Builtin.append_, run_underlying ht, Builtin.lenOf, Builtin.firstCells, sizeOf, typeInfo, hq, hi, hadd, hl, hst', show k ≤ cap by omega]
    · obtain ⟨ad, rfl, hc⟩ := hsrc hp
      have hl := run_loadCells_list (P := P) w ad cs hc
      rw [hn] at hl
      simp [Builtin.append_, run_underlying ht, Builtin.lenOf, Builtin.firstCells, sizeOf, typeInfo, hq, hi, hadd, hl, hst', hroom]


/-- A row that is known whole. -/
structure RowW (w : World) (g cap : Nat) (cur : List Value) (P : List RN) : Prop where
  h : w.heap[g]? = some (.cells cur.toArray 63 (0, 0))
  le : P.length ≤ cap
  mx : cap ≤ maxLen
  sz : cur.length = cap * 7
  eq : cur.take (P.length * 7) = WC P
theorem RowW.own {w : World} {g cap base : Nat} {cur : List Value} {P : List RN} (h : RowW w g cap cur P) (hb : base ≤ g) : OwnL nl 63 w base (.slice (some ⟨g, 0, none⟩) P.length cap) P :=
  ⟨WC_len P, .inr ⟨g, cap, cur.toArray, rfl, hb, h.h, h.le, h.mx, by rw [List.size_toArray]; exact h.sz, by rw [List.toList_toArray]; exact h.eq⟩⟩
theorem OwnL.rowW {w : World} {base : Nat} {v : Value} {P : List RN} (h : OwnL nl 63 w base v P) : (v = .slice none 0 0 ∧ P = []) ∨ ∃ g cap cur, v = .slice (some ⟨g, 0, none⟩) P.length cap ∧ base ≤ g ∧ RowW w g cap cur P := by
  rcases h.2 with ⟨hv, h0⟩ | ⟨g, cap, cur, hv, hb, hh, hc, hm, hs, ht⟩
  · exact .inl ⟨hv, List.length_eq_zero_iff.1 h0⟩
  · exact .inr ⟨g, cap, cur.toList, hv, hb, ⟨by simpa using hh, hc, hm, by rw [Array.length_toList]; exact hs, ht⟩⟩
theorem RowW.at {w : World} {g cap : Nat} {cur : List Value} {P : List RN} (h : RowW w g cap cur P) (i : Nat) : ∀ j v, (WC (P.drop i))[j]? = some v → w.cell? ((⟨g, i * 7, none⟩ : Addr).add j) = some v := by
  intro j v hj
  rw [← WC_drop, List.getElem?_drop, ← h.eq, List.getElem?_take] at hj
  split at hj
  · rw [show ((⟨g, i * 7, none⟩ : Addr).add j) = ⟨g, i * 7 + j, none⟩ by unfold Addr.add; split <;> simp_all, cell_of_row w g (i * 7 + j) _ _ _ h.h]
    simpa using hj
  · cases hj
theorem RowW.free {w : World} {g cap : Nat} {cur : List Value} {P : List RN} (h : RowW w g cap cur P) (j : Nat) : w.frozen? ⟨g, j, none⟩ = false := frozen_of_row w g j _ _ h.h
theorem RowW.pre {w : World} {g cap : Nat} {cur : List Value} {P : List RN} (h : RowW w g cap cur P) (i : Nat) (hi : i ≤ P.length) : cur.take (i * 7) = WC (P.take i) := by
  rw [← WC_take, ← h.eq, List.take_take, Nat.min_eq_left (by omega)]


theorem zvN (w : World) : (zeroValue 63).run Try.prog w = .ok (.agg #[.int .i64 0, .int .i64 0, .int .i64 0, .int .i64 0, .int .i64 0, .int .i64 0, .slice none 0 0]) w := by simp






def InsW (w : World) (base : Nat) (v : Value) (l : List RN) (x : Ending) (w' : World) : Prop := ∃ v', x = .returned v' ∧ OwnL nl 63 w' base v' l ∧ Rw w v w' v'
set_option maxHeartbeats 4000000 in
set_option maxRecDepth 100000 in
theorem deleteW {w : World} {g cap base : Nat} {cur : List Value} {P : List RN} (i : Nat) (hbg : base ≤ g) (hr : RowW w g cap cur P) (hi : i < P.length) (hP : P.length ≤ 1000000) :
    Calls Try.prog 54 #[.slice (some ⟨g, 0, none⟩) P.length cap, .int .i64 i, .int .i64 ((i : Int) + 1)] w (InsW w base (.slice (some ⟨g, 0, none⟩) P.length cap) (P.take i ++ P.drop (i + 1))) := by
  have hmx : cap ≤ 9223372036854775807 := by have := hr.mx; unfold maxLen at this; omega
  have hsz := hr.sz
  have hle := hr.le
  have hdl : (WC (P.drop (i + 1))).length = (P.length - (i + 1)) * 7 := by rw [WC_len, List.length_drop]
  have hpl := WC_tl P i (by omega)
  obtain ⟨t, ht'⟩ : ∃ t, i + (P.length - (i + 1)) = t := ⟨_, rfl⟩
  have htn : t = P.length - 1 := by omega
  have HAP : Hid (∀ sp sc, (0 < P.length - (i + 1) → sp = some ⟨g, (i + 1) * 7, none⟩) → ∀ ty, (Builtin.append_ #[44, 44] ty #[.slice (some ⟨g, 0, none⟩) i cap, .slice sp (P.length - (i + 1)) sc]).run Try.prog w.drew = .ok (.slice (some ⟨g, 0, none⟩) t cap) (w.drew.setRow g (splice cur (i * 7) (WC (P.drop (i + 1)))).toArray)) := by
    intro sp sc hsp ty
    rw [← ht']
    exact run_append_fit7 w.drew 44 ty 63 Try.underlying44 Try.size63 g i cap sp (P.length - (i + 1)) sc cur 63 (WC (P.drop (i + 1))) hr.h hdl (fun h => ⟨_, hsp h, hr.at (i + 1)⟩) (by rw [hdl, hsz]; omega) (by omega) (WC_one _)
  have hl1 : (splice cur (i * 7) (WC (P.drop (i + 1)))).length = cap * 7 := by rw [length_splice _ _ _ (by rw [hdl, hsz]; omega), hsz]
  have ht1 : (splice cur (i * 7) (WC (P.drop (i + 1)))).take (t * 7) = WC (P.take i ++ P.drop (i + 1)) := by
    have h1 := splice_at cur (WC (P.take i)) (WC (P.drop (i + 1))) (by rw [hpl]; exact hr.pre i (by omega))
    rw [hpl] at h1
    rw [h1, ← List.append_assoc, List.take_append_of_le_length (by simp only [List.length_append]; rw [hpl, hdl]; omega), List.take_of_length_le (by simp only [List.length_append]; rw [hpl, hdl]; omega), WC_app]
  obtain ⟨c1, hc1⟩ : ∃ c1, splice cur (i * 7) (WC (P.drop (i + 1))) = c1 := ⟨_, rfl⟩
  rw [hc1] at HAP hl1 ht1
  obtain ⟨W1, hW1⟩ : ∃ W1, w.drew.setRow g c1.toArray = W1 := ⟨_, rfl⟩
  rw [hW1] at HAP
  have hh1 : W1.heap[g]? = some (.cells c1.toArray 63 (0, 0)) := by rw [← hW1]; exact setRow_heap w.drew g _ _ _ _ hr.h
  have hG : InG w W1 g := by rw [← hW1]; exact (InG.refl w g).drew.set _
  obtain ⟨W3, hW3⟩ : ∃ W3, W1.setRow g (splice c1 (t * 7) (Builtin.zeroCells (Value.agg #[.int .i64 0, .int .i64 0, .int .i64 0, .int .i64 0, .int .i64 0, .int .i64 0, .slice none 0 0]).cells (P.length - t)).toList).toArray = W3 := ⟨_, rfl⟩
  have hzl : (Builtin.zeroCells (Value.agg #[.int .i64 0, .int .i64 0, .int .i64 0, .int .i64 0, .int .i64 0, .int .i64 0, .slice none 0 0]).cells (P.length - t)).toList.length = (P.length - t) * 7 := by simp [size_zeroCells, Value.cells]
  have hcl : ∀ ty c, (Builtin.clear_ #[44] ty #[.slice (some ⟨g, t * 7, none⟩) (P.length - t) c]).run Try.prog W1 = .ok (.tuple #[]) W3 := by
    intro ty c
    rw [← hW3]
    exact run_clear7 (P := Try.prog) W1 44 63 ty _ Try.underlying44 zvN rfl (by simp [Value.cells]; exact ⟨rfl, rfl⟩) g (t * 7) (P.length - t) c ⟨g, t * 7, none⟩ c1 63 hh1 (fun _ => rfl) (by rw [hl1]; omega)
  have HK : Hid (InsW w base (.slice (some ⟨g, 0, none⟩) P.length cap) (P.take i ++ P.drop (i + 1)) (.returned (.slice (some ⟨g, 0, none⟩) t cap)) W3) := by
    have hl3 : (P.take i ++ P.drop (i + 1)).length = t := by simp; omega
    rw [← hW3]
    refine ⟨_, rfl, ?_, (hG.set _).rw⟩
    have key : OwnL nl 63 (W1.setRow g (splice c1 (t * 7) (Builtin.zeroCells (Value.agg #[.int .i64 0, .int .i64 0, .int .i64 0, .int .i64 0, .int .i64 0, .int .i64 0, .slice none 0 0]).cells (P.length - t)).toList).toArray) base (.slice (some ⟨g, 0, none⟩) (P.take i ++ P.drop (i + 1)).length cap) (P.take i ++ P.drop (i + 1)) :=
      RowW.own ⟨setRow_heap W1 g _ _ _ _ hh1, by rw [hl3]; omega, hr.mx, by rw [length_splice _ _ _ (by rw [hzl, hl1]; omega), hl1], by rw [hl3, splice_take _ _ _ _ (Nat.le_refl _) (by rw [hl1]; omega)]; exact ht1⟩ hbg
    rw [hl3] at key
    exact key
  generalize (P.take i ++ P.drop (i + 1)) = RR at *
  generalize hn' : P.length = n at *
  have hz1 : ¬ ((i : Int) = (i : Int) + 1) := by omega
  have hb1 : (0 : Int) ≤ (i : Int) + 1 := by omega
  have hb2 : (i : Int) + 1 ≤ (n : Int) := by omega
  have hb3 : ((i : Int) + 1).toNat = i + 1 := by omega
  have hb4 : i ≤ n := by omega
  have hb5 : i + 1 ≤ n := by omega
  have hb6 : t ≤ n := by omega
  have hb7 : t ≤ cap := by omega
  have hb8 : (t : Int) ≤ (n : Int) := by omega
  have hb9 : ¬ (cap = t) := by omega
  have hb10 : ¬ (n = i) := by omega
  have hb11 : i ≤ cap := by omega
  clear hr hh1 hl1 hc1 hW1 hdl hsz hn' ht1 ht' hG hW3 hzl hpl
  by_cases hct : cap = i + 1
  · have hrun := HAP.out (some ⟨g, 0, none⟩) 0 (fun h => by omega)
    have hni : n = i + 1 := by omega
    subst hct
    subst hni
    have hti : t = i := by omega
    subst hti
    rw [Nat.sub_self] at hrun
    rw [show t + 1 - t = 1 by omega] at hcl
    have hb12 : (t : Int) ≤ (t : Int) + 1 := by omega
    clear htn HAP
    go_enter Try.func54, Try.ntmps54
    go_wp2_with fail
    go_region_law (refine step_append_run rfl _ _ 44 rfl _ _ (by simp [Act.eval, Act.put]) (by simp [Act.eval, Act.put]) _ _ (hrun _) ?_)
    all_goals
      go_wp2_with (at_builtin; refine wpList_clear_runI _ rfl _ 44 rfl _ rfl (hcl _ _) ?_)
      go_ret
      exact HK.out
  · have hrun := HAP.out (some ⟨g, (i + 1) * 7, none⟩) (cap - (i + 1)) (fun h => rfl)
    clear htn HAP
    go_enter Try.func54, Try.ntmps54
    go_wp2_with fail
    go_region_law (refine step_append_run rfl _ _ 44 rfl _ _ (by simp [Act.eval, Act.put]) (by simp [Act.eval, Act.put]) _ _ (hrun _) ?_)
    all_goals
      go_wp2_with (at_builtin; refine wpList_clear_runI _ rfl _ 44 rfl _ rfl (hcl _ _) ?_)
      go_ret
      exact HK.out
end Go.Proofs.Ytgodnpngdbelhaa
namespace Go.Proofs.Ytgodnpngdbelhaa
open Go.RowKit Go.Maps
set_option linter.unusedVariables false
open M (E V)
open Rm (NT R)
open Tm (T)

/-- A row of pointers. -/
def pl : Ly Nat := ⟨1, fun b => [ptr b], fun _ => rfl, fun x v h => by simp at h; subst h; rfl, by decide⟩
theorem tiP : Ti pl 43 47 := ⟨Try.underlying43, Try.t47, .pointer none, by kernel_rfl, rfl, rfl, by decide, rfl⟩
/-- What may change: the blocks F, and X besides. -/
structure Fx (w : World) (F X : Nat → Prop) (w' : World) (G : Nat → Prop) : Prop where
  os : w'.os = w.os
  tape : w'.tape = w.tape
  output : w'.output = w.output
  size : w.heap.size ≤ w'.heap.size
  block : ∀ k, k < w.heap.size → ¬ F k → ¬ X k → w'.heap[k]? = w.heap[k]?
  n : ∀ k, G k → F k ∨ w.heap.size ≤ k
def or2 (F X : Nat → Prop) (k : Nat) : Prop := F k ∨ X k
section
variable {w0 w w' w1 w2 : World} {F G H X : Nat → Prop}
theorem Fx.fr (h : Fx w F X w' G) : Fr w (or2 F X) w' (or2 G X) := ⟨h.os, h.tape, h.output, h.size, fun k hk hn => h.block k hk (fun e => hn (.inl e)) (fun e => hn (.inr e)), fun k hk => by
  rcases hk with hk | hk
  · exact (h.n k hk).imp .inl id
  · exact .inl (.inr hk)⟩
theorem Fr.fx (h : Fr w F w' G) (X : Nat → Prop) : Fx w F X w' G := ⟨h.os, h.tape, h.output, h.size, fun k hk hn _ => h.block k hk hn, h.n⟩
theorem Fx.fr0 (h : Fx w F (fun _ => False) w' G) : Fr w F w' G := ⟨h.os, h.tape, h.output, h.size, fun k hk hn => h.block k hk hn id, h.n⟩
theorem Fx.trans (h : Fx w F X w1 G) (k : Fx w1 G X w2 H) : Fx w F X w2 H := by
  refine ⟨k.os.trans h.os, k.tape.trans h.tape, k.output.trans h.output, Nat.le_trans h.size k.size, fun j hj hn hx => ?_, fun j hj => ?_⟩
  · rw [k.block j (Nat.lt_of_lt_of_le hj h.size) (fun e => ?_) hx]
    · exact h.block j hj hn hx
    · rcases h.n j e with h' | h'
      · exact hn h'
      · omega
  · rcases k.n j hj with h' | h'
    · exact h.n j h'
    · exact .inr (Nat.le_trans h.size h')
theorem Fx.up (h : Fx w F X w1 G) (k : Below w1.heap.size w1 w2) : Fx w F X w2 G := h.trans ((Fr.ofBelow k).fx X)
theorem Fx.not (h : Fx w F X w' G) {k : Nat} (hk : ¬ F k) (hl : k < w.heap.size) : ¬ G k := fun e => by
  rcases h.n k e with h' | h'
  · exact hk h'
  · omega
end
abbrev trow (g c n : Nat) (u : Value) : Obj := .cells #[.slice (some ⟨g, 0, none⟩) n c, u] 46 (0, 0)
/-- What is the nodes' own, and the block of all. -/
def NG (b n : Nat) (F : Nat → Nat → Prop) (k : Nat) : Prop := k = b ∨ ∃ i, i < n ∧ F i k
/-- The row of notes besides. -/
def TG (b n : Nat) (F : Nat → Nat → Prop) (u : Value) (k : Nat) : Prop := NG b n F k ∨ u.ownBlock = some k
def upF (F : Nat → Nat → Prop) (i : Nat) (G : Nat → Prop) : Nat → Nat → Prop := fun j => if j = i then G else F j
theorem upF_same (F : Nat → Nat → Prop) (i : Nat) (G : Nat → Prop) : upF F i G i = G := if_pos rfl
theorem upF_other (F : Nat → Nat → Prop) {i j : Nat} (G : Nat → Prop) (h : j ≠ i) : upF F i G j = F j := if_neg h
structure TP (w0 w : World) (b g c : Nat) (F : Nat → Nat → Prop) (bs : Nat → Nat) (u : Value) (ys : List RN) (t : T) : Prop where
  hn : 1 ≤ t.n ∧ t.n ≤ 7
  row : w.heap[b]? = some (trow g c t.n u)
  nod : XL pl w (some ⟨g, 0, none⟩) c ((List.range t.n).map bs)
  gz : g < w.heap.size
  rs : ∀ i, i < t.n → RS w0 w (F i) (bs i) (t.rs i)
  ap : ∀ i j, i < t.n → j < t.n → i ≠ j → ∀ k, F i k → ¬ F j k
  nb : ∀ i, i < t.n → ¬ F i b
  ng : ¬ NG b t.n F g
  ug : u.ownBlock ≠ some g
  ob : OB w w0.heap.size (NG b t.n F) u ys
  my : ys.map RN.x = t.way
  lo : w0.heap.size ≤ b
  lg : w0.heap.size ≤ g
/-- What is not written, but stood on: the row of nodes, and the votes of the notes. -/
def US (g : Nat) (ys : List RN) (k : Nat) : Prop := k = g ∨ ∃ y ∈ ys, blk y.ad k
def UG (b n : Nat) (F : Nat → Nat → Prop) (u : Value) (g : Nat) (ys : List RN) (k : Nat) : Prop := TG b n F u k ∨ US g ys k
theorem fr_ug {w w' : World} {b n g : Nat} {F F' : Nat → Nat → Prop} {u u' : Value} {ys ys' : List RN} (h : Fr w (TG b n F u) w' (TG b n F' u')) (hs : ∀ z ∈ ys', z ∈ ys ∨ ∀ k, blk z.ad k → w.heap.size ≤ k) : Fr w (UG b n F u g ys) w' (UG b n F' u' g ys') := by
  refine ⟨h.os, h.tape, h.output, h.size, fun k hk hn => h.block k hk (fun e => hn (.inl e)), fun k hk => ?_⟩
  rcases hk with hk | hk | ⟨z, hz, hk⟩
  · exact (h.n k hk).imp .inl id
  · exact .inl (.inr (.inl hk))
  · rcases hs z hz with h' | h'
    · exact .inl (.inr (.inr ⟨z, h', hk⟩))
    · exact .inr (h' k hk)
/-- The same, its parts left open; G: its own, and what it stands on. -/
def TO (w0 w : World) (G : Nat → Prop) (b : Nat) (t : T) : Prop := ∃ g c F bs u ys, G = UG b t.n F u g ys ∧ TP w0 w b g c F bs u ys t
section
variable {w0 w w' w1 : World} {b g c : Nat} {F : Nat → Nat → Prop} {bs : Nat → Nat} {u u' : Value} {ys ys' : List RN} {t : T} {G X : Nat → Prop}
theorem TP.to (h : TP w0 w b g c F bs u ys t) : TO w0 w (UG b t.n F u g ys) b t := ⟨_, _, _, _, _, _, rfl, h⟩
theorem TP.lt (h : TP w0 w b g c F bs u ys t) : b < w.heap.size := (Array.getElem?_eq_some_iff.1 h.row).1
theorem TP.bel (h : TP w0 w b g c F bs u ys t) : Below w0.heap.size w0 w := (h.rs 0 (by have := h.hn; omega)).bel
theorem TP.mineN (h : TP w0 w b g c F bs u ys t) : ∀ k, NG b t.n F k → w0.heap.size ≤ k ∧ k < w.heap.size := by
  rintro k (rfl | ⟨i, hi, hk⟩)
  · exact ⟨h.lo, h.lt⟩
  · exact (h.rs i hi).mine k hk
theorem TP.mine (h : TP w0 w b g c F bs u ys t) : ∀ k, TG b t.n F u k → w0.heap.size ≤ k ∧ k < w.heap.size := by
  rintro k (hk | hk)
  · exact h.mineN k hk
  · exact h.ob.ow.own.lt hk
theorem TP.mineU (h : TP w0 w b g c F bs u ys t) : ∀ k, UG b t.n F u g ys k → w0.heap.size ≤ k ∧ k < w.heap.size := by
  rintro k (hk | hk | ⟨y, hy, hk⟩)
  · exact h.mine k hk
  · subst hk
    exact ⟨h.lg, h.gz⟩
  · exact ⟨((h.ob.ow.all y hy).blk k hk).2.1, ((h.ob.ow.all y hy).blk k hk).1⟩
theorem TP.len (h : TP w0 w b g c F bs u ys t) : ys.length = t.way.length := by rw [← h.my, List.length_map]
theorem TP.gn (h : TP w0 w b g c F bs u ys t) : ¬ TG b t.n F u g := fun e => by
  rcases e with e | e
  · exact h.ng e
  · exact h.ug e
theorem TP.keep (h : TP w0 w b g c F bs u ys t) (hb : Below w.heap.size w w') : TP w0 w' b g c F bs u ys t :=
  ⟨h.hn, bel_row h.row hb, h.nod.keep hb, Nat.lt_of_lt_of_le h.gz hb.size, fun i hi => (h.rs i hi).keep hb, h.ap, h.nb, h.ng, h.ug, h.ob.fr (Fr.ofBelow hb), h.my, h.lo, h.lg⟩
theorem blk_add {g k o : Nat} (h : blk (some ⟨g, o, none⟩) k) : k = g := by obtain ⟨off, s, e⟩ := h; cases e; rfl
/-- A node changes, and X besides. -/
theorem TP.node (h : TP w0 w b g c F bs u ys t) (hX : ∀ k, X k → ¬ TG b t.n F u k ∧ w0.heap.size ≤ k ∧ k ≠ g ∧ ∀ y ∈ ys, ¬ blk y.ad k) {i : Nat} (hi : i < t.n) {r' : R} {G' : Nat → Prop} (hr : RS w0 w' G' (bs i) r') (hf : Fx w (F i) X w' G') :
    TP w0 w' b g c (upF F i G') bs u ys { t with rs := Tm.upR t.rs i r' } ∧ Fx w (TG b t.n F u) X w' (TG b t.n (upF F i G') u) := by
  have hfr := hf.fr
  have hlo : ∀ k, or2 (F i) X k → w0.heap.size ≤ k := fun k hk => by
    rcases hk with hk | hk
    · exact ((h.rs i hi).mine k hk).1
    · exact (hX k hk).2.1
  have hNG : ∀ k, NG b t.n (upF F i G') k → NG b t.n F k ∨ w.heap.size ≤ k := by
    rintro k (e | ⟨j, hj, hk⟩)
    · exact .inl (.inl e)
    · by_cases hji : j = i
      · subst hji
        rw [upF_same] at hk
        exact (hf.n k hk).imp (fun e => .inr ⟨j, hj, e⟩) id
      · rw [upF_other _ _ hji] at hk
        exact .inl (.inr ⟨j, hj, hk⟩)
  have hXn : ∀ k, X k → ¬ NG b t.n F k := fun k hk e => (hX k hk).1 (.inl e)
  have hub : ∀ k, u.ownBlock = some k → w'.heap[k]? = w.heap[k]? := fun k hk => hf.block k (h.ob.ow.own.lt hk).2 (fun e => h.ob.own k hk (.inr ⟨i, hi, e⟩)) (fun e => (hX k e).1 (.inr hk))
  refine ⟨⟨h.hn, ?_, ?_, Nat.lt_of_lt_of_le h.gz hf.size, fun j hj => ?_, fun j l hj hl hjl k => ?_, fun j hj => ?_, ?_, h.ug, ⟨⟨h.ob.ow.own.keepBut fun k _ hk2 => hub k hk2, fun y hy => ?_⟩, fun k hk e => ?_, fun y hy k hk e => ?_⟩, h.my, h.lo, h.lg⟩, hf.os, hf.tape, hf.output, hf.size, fun k hk hn hx => ?_, ?_⟩
  · exact (hf.block b h.lt (h.nb i hi) (fun e => (hX b e).1 (.inl (.inl rfl)))).trans h.row
  · exact h.nod.keepBut fun k hk hk2 => by
      obtain rfl := blk_add hk2
      exact hf.block k hk (fun e => h.ng (.inr ⟨i, hi, e⟩)) (fun e => (hX k e).2.2.1 rfl)
  · by_cases hji : j = i
    · subst hji
      simp only [upF_same, Tm.upR, if_pos]
      exact hr
    · simp only [upF_other _ _ hji, Tm.upR, if_neg hji]
      refine (h.rs j hj).step hfr (fun k hk e => ?_) hlo
      rcases e with e | e
      · exact h.ap j i hj hi hji k hk e
      · exact hXn k e (.inr ⟨j, hj, hk⟩)
  · have key : ∀ j, j < t.n → j ≠ i → ∀ k, F j k → ¬ G' k := fun j hj hji k hk => hf.not (h.ap j i hj hi hji k hk) ((h.rs j hj).mine k hk).2
    by_cases h1 : j = i
    · subst h1
      by_cases h2 : l = j
      · exact absurd h2.symm hjl
      · rw [upF_same, upF_other _ _ h2]
        exact fun hk e => key l hl h2 k e hk
    · by_cases h2 : l = i
      · subst h2
        rw [upF_same, upF_other _ _ h1]
        exact key j hj h1 k
      · rw [upF_other _ _ h1, upF_other _ _ h2]
        exact h.ap j l hj hl hjl k
  · by_cases h1 : j = i
    · subst h1
      rw [upF_same]
      exact hf.not (h.nb j hj) h.lt
    · rw [upF_other _ _ h1]
      exact h.nb j hj
  · intro e
    rcases hNG g e with h' | h'
    · exact h.ng h'
    · have := h.gz; omega
  · have h1 := h.ob.ow.all y hy
    exact ⟨h1.xl.keepBut fun k hk hk2 => hf.block k hk (fun e => h.ob.all y hy k hk2 (.inr ⟨i, hi, e⟩)) (fun e => (hX k e).2.2.2 y hy hk2), fun k hk => ⟨Nat.lt_of_lt_of_le (h1.blk k hk).1 hf.size, (h1.blk k hk).2⟩⟩
  · rcases hNG k e with h' | h'
    · exact h.ob.own k hk h'
    · have := (h.ob.ow.own.lt hk).2; omega
  · rcases hNG k e with h' | h'
    · exact h.ob.all y hy k hk h'
    · have := ((h.ob.ow.all y hy).blk k hk).1; omega
  · exact hf.block k hk (fun e => hn (.inl (.inr ⟨i, hi, e⟩))) hx
  · rintro k (e | e)
    · exact (hNG k e).imp .inl id
    · exact .inl (.inr e)
/-- The row of notes changes. -/
theorem TP.app (h : TP w0 w b g c F bs u ys t) (ho : OW w' w0.heap.size u' ys') (hr : Rw w u w' u') (hnew : ∀ y ∈ ys', y ∈ ys ∨ ∀ k, blk y.ad k → ¬ NG b t.n F k) :
    TP w0 (w'.setCell ⟨b, 1, none⟩ u') b g c F bs u' ys' { t with way := ys'.map RN.x } ∧ Fr w (TG b t.n F u) (w'.setCell ⟨b, 1, none⟩ u') (TG b t.n F u') := by
  have hf := rw_fr hr
  have hfo := fr_one w' b 1 u'
  have hrow : w'.heap[b]? = some (trow g c t.n u) := (hf.block b h.lt (fun e => h.ob.own b e (.inl rfl))).trans h.row
  have hbl : ∀ k, k = b → w0.heap.size ≤ k := fun k e => by have := h.lo; omega
  have hug : u'.ownBlock ≠ some g := fun e => by
    rcases hr.n g e with h' | h'
    · exact h.ug h'
    · have := h.gz; omega
  have hun : ∀ k, u'.ownBlock = some k → ¬ NG b t.n F k := fun k hk e => by
    rcases hr.n k hk with h' | h'
    · exact h.ob.own k h' e
    · have := (h.mineN k e).2; omega
  have hvn : ∀ y ∈ ys', ∀ k, blk y.ad k → ¬ NG b t.n F k := fun y hy => by
    rcases hnew y hy with h' | h'
    · exact h.ob.all y h'
    · exact h'
  have hgb : g ≠ b := fun e => h.ng (.inl e)
  refine ⟨⟨h.hn, ?_, ?_, ?_, fun i hi => ?_, h.ap, h.nb, h.ng, hug, (OB.mk ho hun hvn).fr (G' := NG b t.n F) ⟨hfo.os, hfo.tape, hfo.output, hfo.size, fun k hk hn => hfo.block k hk (fun e => hn (.inl e)), fun k hk => .inl hk⟩, rfl, h.lo, h.lg⟩, ?_⟩
  · rw [heap_setCell_same w' b 1 _ _ _ hrow]; rfl
  · refine (h.nod.keepBut (w' := w') fun k hk hk2 => ?_).keepBut fun k hk hk2 => ?_
    · obtain rfl := blk_add hk2
      exact hf.block k hk h.ug
    · obtain rfl := blk_add hk2
      exact hfo.block k hk hgb
  · exact Nat.lt_of_lt_of_le h.gz (Nat.le_trans hf.size hfo.size)
  · refine ((h.rs i hi).step hf (fun k hk e => h.ob.own k e (.inr ⟨i, hi, hk⟩)) (fun k e => (h.ob.ow.own.lt e).1)).step hfo (fun k hk e => h.nb i hi (e ▸ hk)) hbl
  · have f1 : Fr w (TG b t.n F u) w' (TG b t.n F u') := ⟨hf.os, hf.tape, hf.output, hf.size, fun k hk hn => hf.block k hk (fun e => hn (.inr e)), fun k hk => by
      rcases hk with hk | hk
      · exact .inl (.inl hk)
      · exact (hf.n k hk).imp .inr id⟩
    exact f1.trans ⟨hfo.os, hfo.tape, hfo.output, hfo.size, fun k hk hn => hfo.block k hk (fun e => hn (.inl (.inl e))), fun k hk => .inl hk⟩
end
end Go.Proofs.Ytgodnpngdbelhaa
namespace Go.Proofs.Ytgodnpngdbelhaa
open Go.RowKit Go.Maps
set_option linter.unusedVariables false
open M (E V)
open Rm (NT R)
open Tm (T)

theorem crash_nil (w : World) : Calls Try.prog 40 #[.pointer none] w fun e w' => e = .returned (.tuple #[]) ∧ w' = w := by
  go_enter Try.func40, Try.ntmps40
  go_wp2
  exact bodyPost_ret (results_none rfl _ _ _) rfl ⟨rfl, rfl⟩
theorem log_nil (w : World) : Calls Try.prog 26 #[.pointer none] w fun e w' => e = .returned (.slice none 0 0) ∧ w' = w := by
  go_enter Try.func26, Try.ntmps26
  go_wp2
  go_ret
  exact ⟨rfl, rfl⟩
theorem leads_nil (w : World) : Calls Try.prog 41 #[.pointer none] w fun e w' => e = .returned (.bool false) ∧ w' = w := by
  go_enter Try.func41, Try.ntmps41
  go_wp2
  go_ret
  exact ⟨rfl, rfl⟩
theorem AtL.getP {w : World} {a : Option Addr} {l : List Nat} (h : AtL pl w a l) (j : Nat) (hj : j < l.length) : ∃ b off, a = some ⟨b, off, none⟩ ∧ w.cell? ⟨b, off + j * 1, none⟩ = some (ptr l[j]) := by
  obtain ⟨b, off, e, h0⟩ := h j hj
  exact ⟨b, off, e, h0 0 (by decide)⟩
section
variable {w0 w w' w1 : World} {b g c : Nat} {F : Nat → Nat → Prop} {bs : Nat → Nat} {u u' : Value} {ys ys' : List RN} {t : T} {G X : Nat → Prop}
/-- The node of a number, as it is told. -/
def nodeV (t : T) (bs : Nat → Nat) (i : Int) : Value := if Tm.isT t i = true then ptr (bs i.toNat) else .pointer none
theorem TP.node' (h : TP w0 w b g c F bs u ys t) (i : Int) : Calls Try.prog 25 #[ptr b, .int .i64 i] w fun e w' => e = .returned (nodeV t bs i) ∧ w' = w := by
  obtain ⟨⟨c0, c1⟩, _⟩ := row2 h.row
  have hn := h.hn
  by_cases h0 : i < 0
  · have hv : Hid (nodeV t bs i = .pointer none) := by
      unfold nodeV Tm.isT
      rw [if_neg (by simp; omega)]
      rfl
    have hd : decide (i < 0) = true := decide_eq_true h0
    clear h
    go_enter Try.func25, Try.ntmps25
    go_wp2
    go_ret
    exact ⟨by rw [hv.out]; rfl, rfl⟩
  · have hd : decide (i < 0) = false := decide_eq_false h0
    by_cases h1 : (t.n : Int) ≤ i
    · have hv : Hid (nodeV t bs i = .pointer none) := by
        unfold nodeV Tm.isT
        rw [if_neg (by simp; omega)]
        rfl
      clear h
      go_enter Try.func25, Try.ntmps25
      go_wp2
      go_ret
      exact ⟨by rw [hv.out]; rfl, rfl⟩
    · obtain ⟨j, rfl⟩ : ∃ j : Nat, i = (j : Int) := ⟨i.toNat, by omega⟩
      have hv : Hid (nodeV t bs (j : Int) = ptr (bs j)) := by
        unfold nodeV Tm.isT
        rw [if_pos (by simp; omega)]
        rfl
      have hj : j < t.n := by omega
      obtain ⟨g', off, e, x0⟩ := AtL.getP h.nod.at' j (by simpa using hj)
      cases e
      simp only [List.getElem_map, List.getElem_range, Nat.zero_add, Nat.mul_one] at x0
      have hji : (j : Int) < (t.n : Int) := by omega
      clear h
      generalize t.n = n at *
      go_enter Try.func25, Try.ntmps25
      go_wp2
      go_ret
      exact ⟨by rw [hv.out]; rfl, rfl⟩
theorem TP.log (h : TP w0 w b g c F bs u ys t) (i : Int) : Calls Try.prog 12 #[ptr b, .int .i64 i] w fun e w' => ∃ ad c, e = .returned (.slice ad (Tm.logT t i).length c) ∧ XL Nl.tl w' ad c (Tm.logT t i) ∧ (∀ j, blk ad j → w.heap.size ≤ j ∧ j < w'.heap.size) ∧ Below w.heap.size w w' := by
  have cn := h.node' i
  by_cases hi : Tm.isT t i = true
  · obtain ⟨ba, bp, bl, Fa, Fp, Fl, hF, hp⟩ := h.rs i.toNat (Tm.isT_yes hi)
    have cl := hp.log
    have hL : Tm.logT t i = Rm.logL (t.rs i.toNat) := by unfold Tm.logT; rw [if_pos hi]
    rw [hL]
    unfold nodeV at cn
    rw [if_pos hi] at cn
    clear h hp hF hi hL
    go_enter Try.func12, Try.ntmps12
    go_wp2_with fail
    refine cn.mono ?_
    rintro e w1 ⟨rfl, rfl⟩
    clear cn
    go_wp2_with fail
    refine cl.mono ?_
    clear cl
    rintro e w2 ⟨ad, c, rfl, h1, h2, h3⟩
    have H1 := Hid_of h1
    have H2 := Hid_of h2
    have H3 := Hid_of h3
    clear h1 h2 h3
    go_wp2
    go_ret
    exact ⟨ad, c, rfl, H1.out, H2.out, H3.out⟩
  · have hL : Tm.logT t i = [] := by unfold Tm.logT; rw [if_neg hi]
    rw [hL]
    unfold nodeV at cn
    rw [if_neg hi] at cn
    clear h hi hL
    go_enter Try.func12, Try.ntmps12
    go_wp2_with fail
    refine cn.mono ?_
    rintro e w1 ⟨rfl, rfl⟩
    clear cn
    go_wp2_with fail
    refine (log_nil _).mono ?_
    rintro e w2 ⟨rfl, rfl⟩
    go_wp2
    go_ret
    exact ⟨none, 0, rfl, XL.emp _, fun j hj => (by obtain ⟨o, s, e⟩ := hj; cases e), Below.refl _ _⟩
def leadT (t : T) (i : Int) : Bool := Tm.isT t i && decide (2 ≤ (t.rs i.toNat).p.st)
theorem TP.leads (h : TP w0 w b g c F bs u ys t) (i : Int) : Calls Try.prog 23 #[ptr b, .int .i64 i] w fun e w' => e = .returned (.bool (leadT t i)) ∧ w' = w := by
  have cn := h.node' i
  by_cases hi : Tm.isT t i = true
  · obtain ⟨ba, bp, bl, Fa, Fp, Fl, hF, hp⟩ := h.rs i.toNat (Tm.isT_yes hi)
    have cl := hp.leads
    have hL : leadT t i = decide (2 ≤ (t.rs i.toNat).p.st) := by unfold leadT; rw [hi]; rfl
    rw [hL]
    unfold nodeV at cn
    rw [if_pos hi] at cn
    clear h hp hF hi hL
    go_enter Try.func23, Try.ntmps23
    go_wp2_with fail
    refine cn.mono ?_
    rintro e w1 ⟨rfl, rfl⟩
    clear cn
    go_wp2_with fail
    refine cl.mono ?_
    clear cl
    rintro e w2 ⟨rfl, rfl⟩
    go_wp2
    go_ret
    exact ⟨rfl, rfl⟩
  · have hL : leadT t i = false := by unfold leadT; rw [Bool.eq_false_iff.2 hi]; rfl
    rw [hL]
    unfold nodeV at cn
    rw [if_neg hi] at cn
    clear h hi hL
    go_enter Try.func23, Try.ntmps23
    go_wp2_with fail
    refine cn.mono ?_
    rintro e w1 ⟨rfl, rfl⟩
    clear cn
    go_wp2_with fail
    refine (leads_nil _).mono ?_
    rintro e w2 ⟨rfl, rfl⟩
    go_wp2
    go_ret
    exact ⟨rfl, rfl⟩
theorem TP.slice (h : TP w0 w b g c F bs u ys t) : ∃ ad cc, u = .slice ad t.way.length cc ∧ XS w (fun k => w0.heap.size ≤ k) ad cc ys := by
  obtain ⟨ad, cc, e, hx⟩ := h.ob.ow.at
  exact ⟨ad, cc, by rw [e, h.len], hx⟩
theorem TP.waiting (h : TP w0 w b g c F bs u ys t) : Calls Try.prog 17 #[ptr b] w fun e w' => e = .returned (.int .i64 t.way.length) ∧ w' = w := by
  obtain ⟨⟨c0, c1⟩, _⟩ := row2 h.row
  obtain ⟨ad, cc, rfl, -⟩ := h.slice
  clear h
  go_enter Try.func17, Try.ntmps17
  go_wp2
  go_ret
  exact ⟨rfl, rfl⟩
theorem at_rem (k : Int) (m : Nat) (hm : 0 < m) : Int.tmod (Int.tmod k m + m) m = ((Tm.at' k m : Nat) : Int) := by
  unfold Tm.at'
  have hm' : (0 : Int) < (m : Int) := by omega
  have h1 := Int.emod_nonneg k (show (m : Int) ≠ 0 by omega)
  have h2 := Int.emod_lt_of_pos k hm'
  have hx : 0 ≤ Int.tmod k m + m := by
    have := Int.lt_tmod_of_pos k hm'
    omega
  rw [Int.tmod_eq_emod_of_nonneg hx, Int.add_emod_right, Int.toNat_of_nonneg h1, Int.tmod_eq_emod]
  split
  · simp
  · have h3 : (k % (m : Int) - ((m : Int).natAbs : Int)) % (m : Int) = k % (m : Int) := by
      rw [show ((m : Int).natAbs : Int) = (m : Int) by omega, Int.sub_emod_right, Int.emod_emod]
    exact h3
def placeV (t : T) (k : Int) : Value := if t.way.length = 0 then .tuple #[.int .i64 0, .bool false] else .tuple #[.int .i64 ((Tm.at' k t.way.length : Nat) : Int), .bool true]
end
end Go.Proofs.Ytgodnpngdbelhaa
namespace Go.Proofs.Ytgodnpngdbelhaa
open Go.RowKit Go.Maps
set_option linter.unusedVariables false
open M (E V)
open Rm (NT R)
open Tm (T)
section
variable {w0 w w' w1 : World} {b g c : Nat} {F : Nat → Nat → Prop} {bs : Nat → Nat} {u u' : Value} {ys ys' : List RN} {t : T} {G X : Nat → Prop}
def addT (t : T) (x : NT) : T := if t.way.length < 1024 then { t with way := t.way ++ [x] } else t
/-- What a change of the notes leaves. -/
def WayO (w0 w : World) (b g c : Nat) (F : Nat → Nat → Prop) (bs : Nat → Nat) (u : Value) (ys : List RN) (yad : Option Addr) (t t' : T) (e : Ending) (r : Value) (w' : World) : Prop :=
  ∃ u' ys', e = .returned r ∧ TP w0 w' b g c F bs u' ys' t' ∧ Fr w (TG b t.n F u) w' (TG b t.n F u') ∧ ∀ z ∈ ys', z ∈ ys ∨ z.ad = yad
set_option maxRecDepth 100000 in
set_option maxHeartbeats 1000000 in
theorem TP.add (h : TP w0 w b g c F bs u ys t) (y : RN) (hy : XN w (fun q => w0.heap.size ≤ q ∧ ¬ TG b t.n F u q) y) :
    Calls Try.prog 38 #[ptr b, nV y] w fun e w' => WayO w0 w b g c F bs u ys y.ad t (addT t y.x) e (.bool (decide (t.way.length < 1024))) w' := by
  obtain ⟨⟨yk, yf, yt, ys', ⟨yi, yj⟩, yv⟩, yad, yc⟩ := y
  obtain ⟨W1, HW1⟩ : ∃ W1, Hid (w.alloc (.cells #[.int .i64 yk, .int .i64 yf, .int .i64 yt, .int .i64 ys', .int .i64 yi, .int .i64 yj, .slice yad yv.length yc] 63) = W1) := ⟨_, Hid_of rfl⟩
  have hb1 : Below w.heap.size w W1 := by rw [← HW1.out]; exact bel1 w _
  have hz1 : W1.heap[w.heap.size]? = some (.cells #[.int .i64 yk, .int .i64 yf, .int .i64 yt, .int .i64 ys', .int .i64 yi, .int .i64 yj, .slice yad yv.length yc] 63 (0, 0)) := by rw [← HW1.out]; exact heap_alloc_last w _
  obtain ⟨gz, hgz⟩ : ∃ gz, w.heap.size = gz := ⟨_, rfl⟩
  have h1 := h.keep hb1
  have hy1 := hy.keep hb1
  obtain ⟨⟨c0, c1⟩, cf⟩ := row2 h1.row
  obtain ⟨ad, cc, hu, -⟩ := h1.slice
  obtain ⟨⟨_, k1⟩, _⟩ := row2 (h1.keep (bel1 W1 (.cells #[.int .i64 yk, .int .i64 yf, .int .i64 yt, .int .i64 ys', .int .i64 yi, .int .i64 yj, .slice yad yv.length yc] 63))).row
  by_cases hlen : t.way.length < 1024
  · have hd : decide (t.way.length < 1024) = true := decide_eq_true hlen
    have hA : Hid (addT t ⟨yk, yf, yt, ys', ⟨yi, yj⟩, yv⟩ = { t with way := t.way ++ [⟨yk, yf, yt, ys', ⟨yi, yj⟩, yv⟩] }) := by unfold addT; rw [if_pos hlen]; rfl
    have hW : Hid (∃ a' c' w2, (∀ ty, (Builtin.append_ #[44, 44] ty #[.slice ad t.way.length cc, .slice (some ⟨W1.heap.size, 0, none⟩) 1 1]).run Try.prog (W1.alloc (.cells #[.int .i64 yk, .int .i64 yf, .int .i64 yt, .int .i64 ys', .int .i64 yi, .int .i64 yj, .slice yad yv.length yc] 63)).drew = .ok (.slice a' (t.way.length + 1) c') w2) ∧
        (w2.cell? ⟨b, 1, none⟩ = some (.slice ad t.way.length cc) ∧ w2.frozen? ⟨b, 1, none⟩ = false) ∧
        ∀ W, W = w2.setCell ⟨b, 1, none⟩ (.slice a' (t.way.length + 1) c') → WayO w0 w b g c F bs u ys yad t (addT t ⟨yk, yf, yt, ys', ⟨yi, yj⟩, yv⟩) (.returned (.bool true)) (.bool true) W) := by
      have hbd : Below W1.heap.size W1 W1.drew := Below.drew (Below.refl _ _)
      have h2 := h1.keep hbd
      obtain ⟨a', c', w2, hrun, ho, hrw⟩ := h2.ob.ow.app1 ⟨⟨yk, yf, yt, ys', ⟨yi, yj⟩, yv⟩, yad, yc⟩ ((hy1.keep hbd).imp fun k hk hp => ⟨hp.1, fun e => hp.2 (.inr e)⟩) h2.bel.size (by rw [h.len]; omega)
      rw [h.len] at hrun ho hrw
      obtain ⟨r1, r2⟩ := h2.app ho hrw (fun z hz => by
        rcases List.mem_append.1 hz with hz | hz
        · exact .inl hz
        · obtain rfl := List.mem_singleton.1 hz
          exact .inr fun k hk e => ((hy1.keep hbd).blk k hk).2.2 (.inl e))
      have hrow : w2.heap[b]? = some (trow g c t.n u) := (hrw.g.block b h2.lt (fun e => h2.ob.own b e.symm (.inl rfl))).trans h2.row
      obtain ⟨⟨_, m1⟩, m2⟩ := row2 hrow
      rw [hu] at hrun m1
      refine ⟨a', c', w2, hrun, ⟨m1, m2 1⟩, ?_⟩
      rintro W rfl
      rw [List.map_append, h2.my] at r1
      rw [hA.out]
      exact ⟨_, _, rfl, r1, (Fr.ofBelow (bel_up hb1 hbd (Nat.le_refl _))).trans r2, fun z hz => by
        rcases List.mem_append.1 hz with hz | hz
        · exact .inl hz
        · obtain rfl := List.mem_singleton.1 hz
          exact .inr rfl⟩
    obtain ⟨a', c', w2, hrun, ⟨m1, m2⟩, hfin⟩ := hW.out
    have HF := Hid_of hfin
    have hgz' : gz < W1.heap.size := by rw [← hgz]; exact (Array.getElem?_eq_some_iff.1 hz1).1
    rw [hgz] at hz1
    obtain ⟨⟨x0, x1, x2, x3, x4, x5, x6⟩, _⟩ := row7 hz1
    subst hu
    have cf0 := cf 0
    have HGZ := Hid_of hgz
    clear hW hfin h1 hy1 h hy hb1 hz1 hA cf hgz
    rw [hd]
    generalize t.way.length = m at *
    have hmi : ¬ ((1024 : Int) ≤ (m : Int)) := by omega
    go_enter Try.func38, Try.ntmps38
    go_upto_region 1 with fail
    rw [HW1.out, HGZ.out]
    clear HW1
    go_wp2_with fail
    go_region_law (refine Na.step_append_run rfl (.tmp 15) (.tmp 17) 44 rfl _ _ (by simp [Act.eval]) (by simp [Act.eval]) _ _ (hrun _) ?_)
    all_goals
      go_wp2
      go_ret
      exact HF.out _ rfl
  · have hd : decide (t.way.length < 1024) = false := decide_eq_false hlen
    have hQ : Hid (WayO w0 w b g c F bs u ys yad t (addT t ⟨yk, yf, yt, ys', ⟨yi, yj⟩, yv⟩) (.returned (.bool false)) (.bool false) W1) := by
      unfold addT
      rw [if_neg hlen]
      exact ⟨_, _, rfl, h1, Fr.ofBelow hb1, fun z hz => .inl hz⟩
    subst hu
    rw [hd]
    clear h1 hy1 h hy hb1 hz1 cf
    generalize t.way.length = m at *
    have hmi : (1024 : Int) ≤ (m : Int) := by omega
    go_enter Try.func38, Try.ntmps38
    go_upto_region 1 with fail
    rw [HW1.out]
    clear HW1
    go_wp2
    go_ret
    exact hQ.out
/-- Where a note stands. -/
theorem TP.place (h : TP w0 w b g c F bs u ys t) (k : Int) (hm : t.way.length ≤ 1024) : Calls Try.prog 37 #[ptr b, .int .i64 k] w fun e w' => e = .returned (placeV t k) ∧ w' = w := by
  have cw := h.waiting
  by_cases h0 : t.way.length = 0
  · have hv : Hid (placeV t k = .tuple #[.int .i64 0, .bool false]) := by unfold placeV; rw [if_pos h0]; exact Hid_of rfl
    rw [h0] at cw
    clear h h0 hm
    go_enter Try.func37, Try.ntmps37
    go_wp2_with fail
    refine cw.mono ?_
    rintro e w1 ⟨rfl, rfl⟩
    clear cw
    go_wp2
    go_ret2
    exact ⟨by rw [hv.out]; rfl, rfl⟩
  · have hv : Hid (placeV t k = .tuple #[.int .i64 ((Tm.at' k t.way.length : Nat) : Int), .bool true]) := by unfold placeV; rw [if_neg h0]; exact Hid_of rfl
    generalize t.way.length = m at *
    have hr := at_rem k m (by omega)
    have hw : wrap64 (Int.tmod k m + m) = Int.tmod k m + m := by
      have h1 := Int.lt_tmod_of_pos k (show (0 : Int) < (m : Int) by omega)
      have h2 := Int.tmod_lt_of_pos k (show (0 : Int) < (m : Int) by omega)
      unfold wrap64
      omega
    have hm0 : ((m : Int) == 0) = false := beq_false_of_ne (by omega)
    have HR := Hid_of hr
    clear h hr hm0
    go_enter Try.func37, Try.ntmps37
    go_wp2_with fail
    refine cw.mono ?_
    rintro e w1 ⟨rfl, rfl⟩
    clear cw
    go_wp2
    go_ret2
    exact ⟨by rw [hv.out, ← HR.out]; rfl, rfl⟩
theorem atT_at {t : T} {k : Int} {ys : List RN} (hy : ys.map RN.x = t.way) (h : Tm.at' k t.way.length < ys.length) : (ys[Tm.at' k t.way.length]).x = Tm.atT t k := by
  unfold Tm.atT
  have h2 : Tm.at' k t.way.length < (ys.map RN.x).length := by rw [List.length_map]; exact h
  have h3 : (ys.map RN.x)[Tm.at' k t.way.length]'h2 = (ys[Tm.at' k t.way.length]).x := List.getElem_map _
  have h4 : Tm.at' k t.way.length < t.way.length := by rw [hy] at h2; exact h2
  rw [List.getD_eq_getElem?_getD, List.getElem?_eq_getElem h4]
  simp only [hy] at h3
  rw [← h3]
  rfl
def put7 (w : World) (g : Nat) (a0 a1 a2 a3 a4 a5 a6 : Value) : World := ((((((w.setCell ⟨g, 0, none⟩ a0).setCell ⟨g, 1, none⟩ a1).setCell ⟨g, 2, none⟩ a2).setCell ⟨g, 3, none⟩ a3).setCell ⟨g, 4, none⟩ a4).setCell ⟨g, 5, none⟩ a5).setCell ⟨g, 6, none⟩ a6
theorem put7_row {w : World} {g : Nat} {t : TypeId} {v0 v1 v2 v3 v4 v5 v6 : Value} (h : w.heap[g]? = some (.cells #[v0, v1, v2, v3, v4, v5, v6] t (0, 0))) (a0 a1 a2 a3 a4 a5 a6 : Value) : (put7 w g a0 a1 a2 a3 a4 a5 a6).heap[g]? = some (.cells #[a0, a1, a2, a3, a4, a5, a6] t (0, 0)) := by
  have h0 : (w.setCell ⟨g, 0, none⟩ a0).heap[g]? = some (.cells #[a0, v1, v2, v3, v4, v5, v6] t (0, 0)) := heap_setCell_same w g 0 _ _ _ h
  have h1 : ((w.setCell ⟨g, 0, none⟩ a0).setCell ⟨g, 1, none⟩ a1).heap[g]? = some (.cells #[a0, a1, v2, v3, v4, v5, v6] t (0, 0)) := heap_setCell_same (w.setCell ⟨g, 0, none⟩ a0) g 1 _ _ _ h0
  have h2 : (((w.setCell ⟨g, 0, none⟩ a0).setCell ⟨g, 1, none⟩ a1).setCell ⟨g, 2, none⟩ a2).heap[g]? = some (.cells #[a0, a1, a2, v3, v4, v5, v6] t (0, 0)) := heap_setCell_same ((w.setCell ⟨g, 0, none⟩ a0).setCell ⟨g, 1, none⟩ a1) g 2 _ _ _ h1
  have h3 : ((((w.setCell ⟨g, 0, none⟩ a0).setCell ⟨g, 1, none⟩ a1).setCell ⟨g, 2, none⟩ a2).setCell ⟨g, 3, none⟩ a3).heap[g]? = some (.cells #[a0, a1, a2, a3, v4, v5, v6] t (0, 0)) := heap_setCell_same (((w.setCell ⟨g, 0, none⟩ a0).setCell ⟨g, 1, none⟩ a1).setCell ⟨g, 2, none⟩ a2) g 3 _ _ _ h2
  have h4 : (((((w.setCell ⟨g, 0, none⟩ a0).setCell ⟨g, 1, none⟩ a1).setCell ⟨g, 2, none⟩ a2).setCell ⟨g, 3, none⟩ a3).setCell ⟨g, 4, none⟩ a4).heap[g]? = some (.cells #[a0, a1, a2, a3, a4, v5, v6] t (0, 0)) := heap_setCell_same ((((w.setCell ⟨g, 0, none⟩ a0).setCell ⟨g, 1, none⟩ a1).setCell ⟨g, 2, none⟩ a2).setCell ⟨g, 3, none⟩ a3) g 4 _ _ _ h3
  have h5 : ((((((w.setCell ⟨g, 0, none⟩ a0).setCell ⟨g, 1, none⟩ a1).setCell ⟨g, 2, none⟩ a2).setCell ⟨g, 3, none⟩ a3).setCell ⟨g, 4, none⟩ a4).setCell ⟨g, 5, none⟩ a5).heap[g]? = some (.cells #[a0, a1, a2, a3, a4, a5, v6] t (0, 0)) := heap_setCell_same (((((w.setCell ⟨g, 0, none⟩ a0).setCell ⟨g, 1, none⟩ a1).setCell ⟨g, 2, none⟩ a2).setCell ⟨g, 3, none⟩ a3).setCell ⟨g, 4, none⟩ a4) g 5 _ _ _ h4
  have h6 : (((((((w.setCell ⟨g, 0, none⟩ a0).setCell ⟨g, 1, none⟩ a1).setCell ⟨g, 2, none⟩ a2).setCell ⟨g, 3, none⟩ a3).setCell ⟨g, 4, none⟩ a4).setCell ⟨g, 5, none⟩ a5).setCell ⟨g, 6, none⟩ a6).heap[g]? = some (.cells #[a0, a1, a2, a3, a4, a5, a6] t (0, 0)) := heap_setCell_same ((((((w.setCell ⟨g, 0, none⟩ a0).setCell ⟨g, 1, none⟩ a1).setCell ⟨g, 2, none⟩ a2).setCell ⟨g, 3, none⟩ a3).setCell ⟨g, 4, none⟩ a4).setCell ⟨g, 5, none⟩ a5) g 6 _ _ _ h5
  exact h6
theorem put7_fr (w : World) (g : Nat) (a0 a1 a2 a3 a4 a5 a6 : Value) : Fr w (· = g) (put7 w g a0 a1 a2 a3 a4 a5 a6) (· = g) :=
  ((((((fr_one w g 0 a0).trans (fr_one _ g 1 a1)).trans (fr_one _ g 2 a2)).trans (fr_one _ g 3 a3)).trans (fr_one _ g 4 a4)).trans (fr_one _ g 5 a5)).trans (fr_one _ g 6 a6)
theorem f34_res : Try.f34.results = #[.cell 4 63, .tmp 5] := rfl
theorem Try.size63' : (Try.prog.info? 63).map (·.size) = some 7 := by kernel_rfl
theorem res7 (tmps : Array Value) (w : World) (g : Nat) (a0 a1 a2 a3 a4 a5 a6 : Value) (hp : tmps.getD 4 undef = .pointer (some ⟨g, 0, none⟩)) (hg : w.heap[g]? = some (.cells #[a0, a1, a2, a3, a4, a5, a6] 63 (0, 0))) :
    (results Try.f34 tmps).run Try.prog w = .ok (.tuple #[.agg #[a0, a1, a2, a3, a4, a5, a6], tmps.getD 5 undef]) w := by
  have hp' : tmps[4]?.getD undef = .pointer (some ⟨g, 0, none⟩) := by simpa using hp
  rw [results_cell_tmp f34_res]
  simp [asAddr, hp', run_loadVar_row w g 63 63 #[a0, a1, a2, a3, a4, a5, a6] (0, 0) _ hg Try.underlying63 rfl Try.size63']
/-- Something beside it has changed. -/
theorem TP.step (h : TP w0 w b g c F bs u ys t) {H H' : Nat → Prop} (hf : Fr w H w' H') (hH : ∀ k, H k → ¬ TG b t.n F u k ∧ w0.heap.size ≤ k ∧ k ≠ g ∧ ∀ y ∈ ys, ¬ blk y.ad k) : TP w0 w' b g c F bs u ys t := by
  have hlo : ∀ k, H k → w0.heap.size ≤ k := fun k hk => (hH k hk).2.1
  refine ⟨h.hn, (hf.block b h.lt (fun e => (hH b e).1 (.inl (.inl rfl)))).trans h.row, h.nod.keepBut fun k hk hk2 => ?_, Nat.lt_of_lt_of_le h.gz hf.size, fun i hi => (h.rs i hi).step hf (fun k hk e => (hH k e).1 (.inl (.inr ⟨i, hi, hk⟩))) hlo, h.ap, h.nb, h.ng, h.ug, ⟨⟨h.ob.ow.own.keepBut fun k hk hk2 => hf.block k hk (fun e => (hH k e).1 (.inr hk2)), fun y hy => ?_⟩, h.ob.own, h.ob.all⟩, h.my, h.lo, h.lg⟩
  · obtain rfl := blk_add hk2
    exact hf.block k hk (fun e => (hH k e).2.2.1 rfl)
  · have h1 := h.ob.ow.all y hy
    exact ⟨h1.xl.keepBut fun k hk hk2 => hf.block k hk (fun e => (hH k e).2.2.2 y hy hk2), fun k hk => ⟨Nat.lt_of_lt_of_le (h1.blk k hk).1 hf.size, (h1.blk k hk).2⟩⟩
def zR : RN := ⟨Tm.zn, none, 0⟩
/-- What the taking of a note leaves. -/
def TakeO (w0 w : World) (b g c : Nat) (F : Nat → Nat → Prop) (bs : Nat → Nat) (u : Value) (ys : List RN) (t : T) (k : Int) (e : Ending) (w' : World) : Prop :=
  (t.way.length = 0 ∧ e = .returned (.tuple #[nV zR, .bool false]) ∧ Below w.heap.size w w') ∨
  (t.way.length ≠ 0 ∧ ∃ y u' ys', e = .returned (.tuple #[nV y, .bool true]) ∧ y.x = Tm.atT t k ∧ TP w0 w' b g c F bs u' ys' (Tm.drT t k) ∧ Fr w (TG b t.n F u) w' (TG b t.n F u') ∧ XN w' (fun q => w0.heap.size ≤ q ∧ ¬ TG b t.n F u' q) y ∧ (∀ z ∈ ys', z ∈ ys) ∧ y ∈ ys)
set_option maxRecDepth 100000 in
set_option maxHeartbeats 1000000 in
theorem TP.take (h : TP w0 w b g c F bs u ys t) (k : Int) (hm : t.way.length ≤ 1024) : Calls Try.prog 34 #[ptr b, .int .i64 k] w (TakeO w0 w b g c F bs u ys t k) := by
  obtain ⟨W1, HW1⟩ : ∃ W1, Hid (w.alloc (.cells #[.int .i64 0, .int .i64 0, .int .i64 0, .int .i64 0, .int .i64 0, .int .i64 0, .slice none 0 0] 63) = W1) := ⟨_, Hid_of rfl⟩
  have hb1 : Below w.heap.size w W1 := by rw [← HW1.out]; exact bel1 w _
  have hz1 : W1.heap[w.heap.size]? = some (.cells #[.int .i64 0, .int .i64 0, .int .i64 0, .int .i64 0, .int .i64 0, .int .i64 0, .slice none 0 0] 63 (0, 0)) := by rw [← HW1.out]; exact heap_alloc_last w _
  obtain ⟨gz, hgz⟩ : ∃ gz, w.heap.size = gz := ⟨_, rfl⟩
  rw [hgz] at hz1
  have h1 := h.keep hb1
  have cp := h1.place k hm
  by_cases h0 : t.way.length = 0
  · have hv : placeV t k = .tuple #[.int .i64 0, .bool false] := by unfold placeV; rw [if_pos h0]
    rw [hv] at cp
    obtain ⟨⟨z0, z1, z2, z3, z4, z5, z6⟩, zf⟩ := row7 hz1
    have zf0 := zf 0
    have zf1 := zf 1
    have zf2 := zf 2
    have zf3 := zf 3
    have zf4 := zf 4
    have zf5 := zf 5
    have zf6 := zf 6
    have HK : Hid (∀ w', Below w.heap.size w w' → TakeO w0 w b g c F bs u ys t k (.returned (.tuple #[nV zR, .bool false])) w') := fun w' hb => .inl ⟨h0, rfl, hb⟩
    have HB1 := Hid_of hb1
    have HGZ := Hid_of hgz
    have HZ1 := Hid_of hz1
    clear h h1 hv h0 hb1 hz1 hgz zf hm
    go_enter Try.func34, Try.ntmps34
    go_upto_region 1 with fail
    rw [HW1.out, HGZ.out]
    clear HW1
    go_wp2_with fail
    refine cp.mono ?_
    rintro e w1 ⟨rfl, rfl⟩
    clear cp
    go_wp2
    refine bodyPost_ret (v := .tuple #[nV zR, .bool false]) ?_ rfl (HK.out _ (HB1.out.trans (Fr.below (B := w.heap.size) (put7_fr _ gz _ _ _ _ _ _ _) (fun k e => by have := HGZ.out; omega) HB1.out.size)))
    exact res7 _ _ gz _ _ _ _ _ _ _ rfl (put7_row HZ1.out _ _ _ _ _ _ _)
  · have hv : placeV t k = .tuple #[.int .i64 ((Tm.at' k t.way.length : Nat) : Int), .bool true] := by unfold placeV; rw [if_neg h0]
    rw [hv] at cp
    have hlen := h.len
    have hp0 : Tm.at' k t.way.length < ys.length := by rw [hlen]; exact Tm.at_lt k (by omega)
    have hyx := atT_at h.my hp0
    have hdr : (ys.take (Tm.at' k t.way.length) ++ ys.drop (Tm.at' k t.way.length + 1)).map RN.x = t.way.eraseIdx (Tm.at' k t.way.length) := by
      rw [List.eraseIdx_eq_take_drop_succ, List.map_append, List.map_take, List.map_drop, h.my]
    have hT : Tm.drT t k = { t with way := t.way.eraseIdx (Tm.at' k t.way.length) } := rfl
    generalize Tm.at' k t.way.length = p at *
    have hym : ys[p] ∈ ys := List.getElem_mem hp0
    rcases h1.ob.ow.own.rowW with ⟨-, e⟩ | ⟨gu, cap, cur, hu, hgb, hrow⟩
    · exact absurd (by rw [← hlen, e]; rfl) h0
    obtain ⟨a, cc, hu2, hx, -⟩ := h1.ob.ow.own.at
    obtain ⟨q, off, ea, n0, n1, n2, n3, n4, n5, n6⟩ := AtL.getN hx.at' p hp0
    rw [hu] at hu2
    simp only [Value.slice.injEq] at hu2
    obtain ⟨e1, -, -⟩ := hu2
    rw [ea] at e1
    cases e1
    obtain ⟨y, HY⟩ : ∃ y, Hid (ys[p] = y) := ⟨_, Hid_of rfl⟩
    rw [HY.out] at n0 n1 n2 n3 n4 n5 n6 hyx hym
    have hyo := h.ob.ow.all y hym
    have hyn := h.ob.all y hym
    obtain ⟨⟨yk, yf, yt, ysl, ⟨yi, yj⟩, yv⟩, yad, yc⟩ := y
    simp only [Nat.zero_add] at n0 n1 n2 n3 n4 n5 n6
    obtain ⟨W2, HW2⟩ : ∃ W2, Hid (W1.alloc (.cells #[.int .i64 yk, .int .i64 yf, .int .i64 yt, .int .i64 ysl, .int .i64 yi, .int .i64 yj, .slice yad yv.length yc] 63) = W2) := ⟨_, Hid_of rfl⟩
    have hb2 : Below W1.heap.size W1 W2 := by rw [← HW2.out]; exact bel1 W1 _
    have hz2 : W2.heap[W1.heap.size]? = some (.cells #[.int .i64 yk, .int .i64 yf, .int .i64 yt, .int .i64 ysl, .int .i64 yi, .int .i64 yj, .slice yad yv.length yc] 63 (0, 0)) := by rw [← HW2.out]; exact heap_alloc_last W1 _
    obtain ⟨gy, hgy⟩ : ∃ gy, W1.heap.size = gy := ⟨_, rfl⟩
    have hgzy : gz < gy := by rw [← hgy]; exact (Array.getElem?_eq_some_iff.1 hz1).1
    rw [hgy] at hz2
    have h2 := h1.keep hb2
    obtain ⟨⟨c0, c1⟩, cf⟩ := row2 h1.row
    obtain ⟨⟨d0, d1⟩, df⟩ := row2 h2.row
    have cd := deleteW p hgb (⟨bel_row hrow.h hb2, hrow.le, hrow.mx, hrow.sz, hrow.eq⟩ : RowW W2 gu cap cur ys) hp0 (by omega)
    have HFIN : Hid (∀ u' w3, OwnL nl 63 w3 w0.heap.size u' (ys.take p ++ ys.drop (p + 1)) → Rw W2 u w3 u' →
        (w3.cell? ⟨b, 1, none⟩ = some u ∧ w3.frozen? ⟨b, 1, none⟩ = false ∧ (∃ v0, w3.heap[b]? = some (.cells #[v0, u] 46 (0, 0))) ∧ w3.heap[gz]? = W1.heap[gz]? ∧ w3.heap[gy]? = W2.heap[gy]? ∧ b ≠ gz ∧ b ≠ gy) ∧
        ∀ W, W = put7 (w3.setCell ⟨b, 1, none⟩ u') gz (.int .i64 yk) (.int .i64 yf) (.int .i64 yt) (.int .i64 ysl) (.int .i64 yi) (.int .i64 yj) (.slice yad yv.length yc) → TakeO w0 w b g c F bs u ys t k (.returned (.tuple #[nV ⟨⟨yk, yf, yt, ysl, ⟨yi, yj⟩, yv⟩, yad, yc⟩, .bool true])) W) := fun u' w3 ho hrw => by
      have hsub : ∀ z ∈ ys.take p ++ ys.drop (p + 1), z ∈ ys := fun z hz => by
        rcases List.mem_append.1 hz with hz | hz
        · exact List.mem_of_mem_take hz
        · exact List.mem_of_mem_drop hz
      obtain ⟨r1, r2⟩ := h2.app (h2.ob.ow.rw ho hrw (fun z hz => .inl (hsub z hz))) hrw (fun z hz => .inl (hsub z hz))
      have hbl := h2.lt
      have hub : u.ownBlock ≠ some b := fun e => h2.ob.own b e (.inl rfl)
      have hu1 : ∀ j, u.ownBlock = some j → j < gz := fun j e => by rw [← hgz]; exact (h.ob.ow.own.lt e).2
      have hrow3 : w3.heap[b]? = some (trow g c t.n u) := (hrw.g.block b hbl (fun e => hub e.symm)).trans h2.row
      have hbz : b < gz := by rw [← hgz]; exact h.lt
      have hgyl : gy < W2.heap.size := (Array.getElem?_eq_some_iff.1 hz2).1
      have e1 : w3.heap[gy]? = W2.heap[gy]? := hrw.g.block gy hgyl (fun e => by have := hu1 gy e.symm; omega)
      have e2 : w3.heap[gz]? = W1.heap[gz]? := (hrw.g.block gz (by omega) (fun e => by have := hu1 gz e.symm; omega)).trans (hb2.block gz (by omega))
      refine ⟨⟨(row2 hrow3).1.2, (row2 hrow3).2 1, ⟨_, hrow3⟩, e2, e1, by omega, by omega⟩, ?_⟩
      rintro W rfl
      have hwz : w.heap.size ≤ gz := by omega
      have hTG : ∀ j, TG b t.n F u' j → j < gz ∨ W2.heap.size ≤ j := fun j hj => by
        rcases r2.n j hj with h' | h'
        · have := (h.mine j h').2; omega
        · exact .inr h'
      have f0 : Fr w (TG b t.n F u) (w3.setCell ⟨b, 1, none⟩ u') (TG b t.n F u') := ((Fr.ofBelow hb1).trans (Fr.ofBelow hb2)).trans r2
      have f1 : Fr w (TG b t.n F u) (put7 (w3.setCell ⟨b, 1, none⟩ u') gz (.int .i64 yk) (.int .i64 yf) (.int .i64 yt) (.int .i64 ysl) (.int .i64 yi) (.int .i64 yj) (.slice yad yv.length yc)) (TG b t.n F u') := by
        have k0 := Np.fr_new f0 hwz 0 (.int .i64 yk)
        have k1 := Np.fr_new k0 hwz 1 (.int .i64 yf)
        have k2 := Np.fr_new k1 hwz 2 (.int .i64 yt)
        have k3 := Np.fr_new k2 hwz 3 (.int .i64 ysl)
        have k4 := Np.fr_new k3 hwz 4 (.int .i64 yi)
        have k5 := Np.fr_new k4 hwz 5 (.int .i64 yj)
        exact Np.fr_new k5 hwz 6 (.slice yad yv.length yc)
      have r3 := r1.step (put7_fr _ gz (.int .i64 yk) (.int .i64 yf) (.int .i64 yt) (.int .i64 ysl) (.int .i64 yi) (.int .i64 yj) (.slice yad yv.length yc)) (fun j hj => by
        subst hj
        refine ⟨fun e => ?_, ?_, ?_, fun z hz e => ?_⟩
        · rcases hTG _ e with h' | h' <;> omega
        · have := h.bel.size; omega
        · have := h.gz; omega
        · have := ((h.ob.ow.all z (hsub z hz)).blk _ e).1; omega)
      rw [hdr, ← hT] at r3
      refine .inr ⟨h0, ⟨⟨yk, yf, yt, ysl, ⟨yi, yj⟩, yv⟩, yad, yc⟩, _, _, rfl, hyx, r3, f1, ?_, hsub, hym⟩
      have hout : ∀ j, blk yad j → ¬ TG b t.n F u j := fun j hj e => by
        rcases e with e | e
        · exact hyn j hj e
        · exact (hyo.blk j hj).2.2 e
      exact ⟨hyo.xl.keepBut fun j hj hj2 => f1.block j hj (hout j hj2), fun j hj => ⟨Nat.lt_of_lt_of_le (hyo.blk j hj).1 f1.size, (hyo.blk j hj).2.1, not_n f1 (hout j hj) (hyo.blk j hj).1⟩⟩
    subst hu
    rw [← hlen] at h0
    have hps : p < ys.length := hp0
    have hm2 : ys.length ≤ 1024 := by rw [hlen]; exact hm
    have HZ1 := Hid_of hz1
    have HZ2 := Hid_of hz2
    have HGZ := Hid_of hgz
    have HGY := Hid_of hgy
    have HGG := Hid_of hgzy
    clear h1 h2 hb1 hb2 hx hrow hz1 hz2 hgz hgy hgzy hdr hT hyx hym hyo hyn HY cf df hv hlen
    generalize ys.length = n at *
    have hpi : (p : Int) < (n : Int) := by omega
    have hwp : IntKind.i64.wrap ((p : Int) + 1) = (p : Int) + 1 := by rw [IntKind.wrap_i64]; omega
    go_enter Try.func34, Try.ntmps34
    go_upto_region 1 with fail
    rw [HW1.out, HGZ.out]
    clear HW1
    go_wp2_with fail
    refine cp.mono ?_
    rintro e w1 ⟨rfl, rfl⟩
    clear cp
    go_upto_region 5 with fail
    rw [HW2.out, HGY.out]
    go_wp2_with fail
    refine cd.mono ?_
    clear cd
    rintro e w3 ⟨u', rfl, ho, hrw⟩
    obtain ⟨a', c', hu', -, -⟩ := ho.at
    subst hu'
    obtain ⟨⟨m1, m2, ⟨v0', hb3⟩, e2, e1, nz, ny⟩, hfin⟩ := HFIN.out _ w3 ho hrw
    have HF := Hid_of hfin
    generalize (ys.take p ++ ys.drop (p + 1)).length = n2 at *
    obtain ⟨⟨x0, x1, x2, x3, x4, x5, x6⟩, _⟩ := row7 (w := w3.setCell ⟨b, 1, none⟩ (.slice a' n2 c')) (((heap_setCell_other w3 ⟨b, 1, none⟩ gy _ (fun e => ny e.symm)).trans e1).trans HZ2.out)
    have hzr : (w3.setCell ⟨b, 1, none⟩ (.slice a' n2 c')).heap[gz]? = _ := ((heap_setCell_other w3 ⟨b, 1, none⟩ gz _ (fun e => nz e.symm)).trans e2).trans HZ1.out
    obtain ⟨⟨z0, z1, z2, z3, z4, z5, z6⟩, zf⟩ := row7 hzr
    have HZR := Hid_of hzr
    have zf0 := zf 0
    have zf1 := zf 1
    have zf2 := zf 2
    have zf3 := zf 3
    have zf4 := zf 4
    have zf5 := zf 5
    have zf6 := zf 6
    clear hfin ho hrw e1 e2 hb3 hzr zf HFIN
    go_upto_region 6 with fail
    generalize w3.setCell ⟨b, 1, none⟩ (.slice a' n2 c') = w4 at *
    go_wp2
    refine bodyPost_ret (v := .tuple #[nV ⟨⟨yk, yf, yt, ysl, ⟨yi, yj⟩, yv⟩, yad, yc⟩, .bool true]) ?_ rfl (HF.out _ rfl)
    exact res7 _ _ gz _ _ _ _ _ _ _ rfl (put7_row HZR.out _ _ _ _ _ _ _)
end
end Go.Proofs.Ytgodnpngdbelhaa
