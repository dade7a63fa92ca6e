/-
  Laws of no program: copy and clear of structs of four cells in a row that is known whole.
-/
import Derived.Test.YtgodnpngdbelhaaG02
import Derived.Lib.Overlaps
import Derived.Lib.AppendZerosOnto
import Derived.Deep.RegionLaw
import Derived.Lib.SliceRun
namespace Go.Proofs.Ytgodnpngdbelhaa.Na
open Go.RowKit
set_option linter.unusedVariables false

theorem run_copy4 {P : Program} (w : World) (dT sT ty elem : TypeId) (g off dLen dCap : Nat) (sp : Option Addr) (sLen sCap : Nat) (cur : List Value) (t : TypeId) (cs : List Value) (m : Nat)
    (hu : P.underlying dT = some (.slice elem)) (hs : (P.info? elem).map (·.size) = some 4)
    (hg : w.heap[g]? = some (.cells cur.toArray t (0, 0))) (hm : Nat.min sLen dLen = m) (hn : cs.length = m * 4)
    (hsrc : 0 < m → ∃ ad, sp = some ad ∧ ∀ j v, cs[j]? = some v → w.cell? (ad.add j) = some v) (hfit : off + cs.length ≤ cur.length) (h1 : ∀ v ∈ cs, v.oneCell' = true) :
    (Builtin.copy_ #[dT, sT] ty #[.slice (some ⟨g, off, none⟩) dLen dCap, .slice sp sLen sCap]).run P w = .ok (goInt m) (w.setRow g (splice cur off cs).toArray) := by
  cases hq : P.info? elem with
  | none => simp [hq] at hs
  | some i =>
    have hi : i.size = 4 := by simpa [hq] using hs
    have hst := run_storeCells_at P g off t cs 0 cur.toArray w hg (by simpa using hfit) h1
    have hst' : (storeCells ⟨g, off, none⟩ cs).run P w = .ok () (w.setRow g (splice cur off cs).toArray) := by
      have := hst
      simp only [Nat.add_zero] at this
      simpa [splice] using this
    rcases Nat.eq_zero_or_pos m with h0 | hp
    · subst h0
      obtain rfl : cs = [] := List.eq_nil_of_length_eq_zero (by simpa using hn)
      cases sp with
      | none => simp [Builtin.copy_, run_underlying hu, Builtin.lenOf, Builtin.firstCells, sizeOf, typeInfo, hq, hm, hst']
      | some ad =>
        have hl := run_loadCells_list (P := P) w ad [] (by simp)
        simp at hl
        simp [Builtin.copy_, run_underlying hu, Builtin.lenOf, Builtin.firstCells, sizeOf, typeInfo, hq, hm, hl, hst']
    · obtain ⟨ad, rfl, hc⟩ := hsrc hp
      have hl := run_loadCells_list (P := P) w ad cs hc
      rw [hn] at hl
      simp [Builtin.copy_, run_underlying hu, Builtin.lenOf, Builtin.firstCells, sizeOf, typeInfo, hq, hi, hm, hl, hst']
theorem wp_copy_runI {P : Program} (w : World) {o : Oper} {a : Act} {K : Act → World → Prop} {Q : Exit → Act → World → Prop} (d s : Operand) (t t' : TypeId)
    (ho : o.op = .call { callee := .builtin .copy, args := #[d, s], argTypes := #[t, t'] }) (v u : Value) (hd : a.eval d = v) (hs : a.eval s = u) {v' : Value} {w' : World}
    (hr : (Builtin.copy_ #[t, t'] o.type #[v, u]).run P w = .ok v' w') (h : K (a.put o.dst v') w') : o.wp P a w K Q := by
  unfold Oper.wp execOp
  simp only [ho, resolve, invoke, builtin, Sem.run_bind, Sem.run_pure, Result.andThen_ok, List.map_toArray, List.map_cons, List.map_nil, hd, hs, hr]
  exact h
theorem wpList_copy_runI {P : Program} (w : World) {ops : Array Oper} {rest : List Oper} {o : Oper} {a : Act} {Q : Exit → Act → World → Prop} (hgd : o.guard = none) (d s : Operand) (t t' : TypeId)
    (ho : o.op = .call { callee := .builtin .copy, args := #[d, s], argTypes := #[t, t'] }) (v u : Value) (hd : a.eval d = v) (hs : a.eval s = u) {v' : Value} {w' : World}
    (hr : (Builtin.copy_ #[t, t'] o.type #[v, u]).run P w = .ok v' w') (h : wpList P ops Q rest (a.put o.dst v') w') : wpList P ops Q (o :: rest) a w :=
  wpList_plain hgd fun _ hK => wp_copy_runI w d s t t' ho v u hd hs hr (hK _ _ h)
theorem step_copy_runI {P : Program} {ops : Array Oper} {o : Oper} {a : Act} {w : World} {K : Act → World → Prop} {Q : Exit → Act → World → Prop} {E : Prop}
    (hg : o.guard = none) (d x : Operand) (dT sT : TypeId) (hop : o.op = Op.call { callee := Callee.builtin Builtin.copy, args := #[d, x], argTypes := #[dT, sT] })
    (v u : Value) (hd : a.eval d = v) (hx : a.eval x = u) {v' : Value} {w' : World} (hr : (Builtin.copy_ #[dT, sT] o.type #[v, u]).run P w = .ok v' w') (hK : K (a.put o.dst v') w') :
    if Region.wanted o (yielded ops a.tmps) = true then Oper.wp P o a w K Q else E := by
  have hw : Region.wanted o (yielded ops a.tmps) = true := by simp [Region.wanted, hg]
  rw [if_pos hw]
  unfold Oper.wp
  simp [execOp, hop, resolve, invoke, builtin, hd, hx, hr, Result.andThen]
  exact hK
/-- clear of a part of a row. -/
theorem run_clear4 {P : Program} (w : World) (t e ty : TypeId) (z : Value) (ht : P.underlying t = some (.slice e)) (hv : ∀ w, (zeroValue e).run P w = .ok z w) (hz : z.cells.size = 4) (h1 : ∀ v ∈ z.cells.toList, v.oneCell' = true)
    (g off n c : Nat) (a : Addr) (cur : List Value) (tt : TypeId) (hg : w.heap[g]? = some (.cells cur.toArray tt (0, 0))) (ha : 0 < n → a = ⟨g, off, none⟩) (hfit : off + n * 4 ≤ cur.length) :
    (Builtin.clear_ #[t] ty #[.slice (some a) n c]).run P w = .ok (.tuple #[]) (w.setRow g (splice cur off (Builtin.zeroCells z.cells n).toList).toArray) := by
  rcases Nat.eq_zero_or_pos n with h0 | hp
  · subst h0
    have e0 : (Builtin.zeroCells z.cells 0).toList = [] := List.eq_nil_of_length_eq_zero (by simp [size_zeroCells])
    rw [e0, show splice cur off [] = cur by simp [splice], setRow_self w g _ _ _ hg]
    simp [Builtin.clear_, run_underlying ht]
  · obtain rfl := ha hp
    have hone : ∀ v ∈ (Builtin.zeroCells z.cells n).toList, v.oneCell' = true := by
      intro v hv'
      apply h1
      simp [Builtin.zeroCells] at hv'
      obtain ⟨k, hk, rfl⟩ := hv'
      have hk4 : k % z.cells.size < z.cells.size := Nat.mod_lt _ (by omega)
      rw [getElem!_pos z.cells _ hk4]
      simp
    have hst := run_storeCells_at P g off tt (Builtin.zeroCells z.cells n).toList 0 cur.toArray w hg (by simp [size_zeroCells, hz]; omega) hone
    have hst' : (storeCells ⟨g, off, none⟩ (Builtin.zeroCells z.cells n).toList).run P w = .ok () (w.setRow g (splice cur off (Builtin.zeroCells z.cells n).toList).toArray) := by
      have := hst
      simp only [Nat.add_zero] at this
      simpa [splice] using this
    obtain ⟨k, rfl⟩ : ∃ k, n = k + 1 := ⟨n - 1, by omega⟩
    simp [Builtin.clear_, run_underlying ht, hv, hst']
/-- The second type of an append of a slice says nothing. -/
theorem append_types {P : Program} {t u e e' : TypeId} (ht : P.underlying t = some (.slice e)) (hu : P.underlying u = some (.slice e')) (i : TypeInfo) (hi : P.info? e = some i) (ty : TypeId) (b : Option Addr) (n c : Nat) (x : Value) (w : World) :
    (Builtin.append_ #[t, u] ty #[.slice b n c, x]).run P w = (Builtin.append_ #[t, t] ty #[.slice b n c, x]).run P w := by
  simp [Builtin.append_, run_underlying ht, run_underlying hu, sizeOf, typeInfo, hi]
theorem wpList_append_lies2 {P : Program} (w : World) {ops : Array Oper} {rest : List Oper} {o : Oper} {a : Act} {Q : Exit → Act → World → Prop} (hgd : o.guard = none) (s x : Operand) (t u : TypeId)
    (ho : o.op = .call { callee := .builtin .append, args := #[s, x], argTypes := #[t, u] })
    (base : Nat) (e e' : TypeId) (i : TypeInfo) (z : Value) (size bytes : Nat) (ht : P.underlying t = some (.slice e)) (hu : P.underlying u = some (.slice e')) (hi : P.info? e = some i) (hz : i.zero = some z)
    (hsize : i.size = size) (hby : i.bytes = bytes) (hzs : z.cells.size = size) (hsz : 0 < size)
    (v : Value) (n : Nat) (xs : List Value) (hs : a.eval s = v) (hown : w.ownsRow base e size v n xs)
    (ad : Addr) (m c : Nat) (news : List Value) (hx : a.eval x = .slice (some ad) m c) (hl : news.length = m * size) (hnews : ∀ j u, news[j]? = some u → w.cell? (ad.add j) = some u) (h1 : ∀ u ∈ news, u.oneCell' = true)
    (hm : 0 < m) (h63 : n + m ≤ maxLen) (hbytes : (n + m) * bytes ≤ 140737488355328) (hbase : base ≤ w.heap.size) (H : Nat) (hH : w.heap.size = H)
    (h : ∀ g cap w', w'.ownsRow base e size (.slice (some ⟨g, 0, none⟩) (n + m) cap) (n + m) (xs ++ news) → w.grownBy w' v.ownBlock → (v.ownBlock = some g ∨ g = H) → g < w'.heap.size → wpList P ops Q rest (a.put o.dst (.slice (some ⟨g, 0, none⟩) (n + m) cap)) w') : wpList P ops Q (o :: rest) a w := by
  obtain ⟨g, cap, w', hr, h2, h3, h4, h5⟩ := run_append_lies (P := P) w t o.type base e i z size bytes ht hi hz hsize hby hzs hsz v n xs hown ad m c news hl hnews h1 hm h63 hbytes hbase H hH
  obtain ⟨b', n', c', rfl⟩ : ∃ b n c, v = .slice b n c := by
    rcases hown.2 with ⟨h, _⟩ | ⟨g, c, _, h, _⟩
    · exact ⟨_, _, _, h⟩
    · exact ⟨_, _, _, h⟩
  refine wpList_plain hgd fun K' hK' => ?_
  unfold Oper.wp execOp
  simp only [ho, resolve, invoke, builtin, Sem.run_bind, Sem.run_pure, Result.andThen_ok, List.map_toArray, List.map_cons, List.map_nil, hs, hx, append_types ht hu i hi, hr]
  exact hK' _ _ (h g cap w' h2 h3 h4 h5)
/-- An append whose run is known, at a step of a region that draws its order. -/
theorem step_append_run {P : Program} {w : World} {ops : Array Oper} {o : Oper} {a : Act} {C : Act → World → Prop} {Q : Exit → Act → World → Prop} {E : Prop} (hgd : o.guard = none) (s x : Operand) (t : TypeId)
    (ho : o.op = .call { callee := .builtin .append, args := #[s, x], argTypes := #[t, t] }) (v sv : Value) (hs : a.eval s = v) (hx : a.eval x = sv) (v' : Value) (w' : World)
    (hr : (Builtin.append_ #[t, t] o.type #[v, sv]).run P w = .ok v' w') (h : C (a.put o.dst v') w') : if Region.wanted o (yielded ops a.tmps) = true then Oper.wp P o a w C Q else E := by
  have hw : Region.wanted o (yielded ops a.tmps) = true := by simp [Region.wanted, hgd]
  rw [if_pos hw]
  unfold Oper.wp execOp
  simp only [ho, resolve, invoke, builtin, Sem.run_bind, Sem.run_pure, Result.andThen_ok, List.map_toArray, List.map_cons, List.map_nil, hs, hx, hr]
  exact h
/-- An append into room of a row that is known whole. -/
theorem run_append_fit4 {P : Program} (w : World) (t ty e : TypeId) (ht : P.underlying t = some (.slice e)) (hs : (P.info? e).map (·.size) = some 4)
    (g k cap : Nat) (sp : Option Addr) (m sc : Nat) (cur : List Value) (tt : TypeId) (cs : List Value) (hg : w.heap[g]? = some (.cells cur.toArray tt (0, 0))) (hn : cs.length = m * 4)
    (hsrc : 0 < m → ∃ ad, sp = some ad ∧ ∀ j v, cs[j]? = some v → w.cell? (ad.add j) = some v) (hfit : k * 4 + cs.length ≤ cur.length) (hroom : k + m ≤ cap) (h1 : ∀ v ∈ cs, v.oneCell' = true) :
    (Builtin.append_ #[t, t] ty #[.slice (some ⟨g, 0, none⟩) k cap, .slice sp m sc]).run P w = .ok (.slice (some ⟨g, 0, none⟩) (k + m) cap) (w.setRow g (splice cur (k * 4) cs).toArray) := by
  cases hq : P.info? e with
  | none => simp [hq] at hs
  | some i =>
    have hi : i.size = 4 := by simpa [hq] using hs
    have hst := run_storeCells_at P g (k * 4) tt cs 0 cur.toArray w hg (by simpa using hfit) h1
    have hst' : (storeCells ⟨g, k * 4, none⟩ cs).run P w = .ok () (w.setRow g (splice cur (k * 4) cs).toArray) := by
      have := hst
      simp only [Nat.add_zero] at this
      simpa [splice] using this
    have hadd : (⟨g, 0, none⟩ : Addr).add (k * 4) = ⟨g, k * 4, none⟩ := by unfold Addr.add; split <;> simp_all
    rcases Nat.eq_zero_or_pos m with h0 | hp
    · subst h0
      obtain rfl : cs = [] := List.eq_nil_of_length_eq_zero (by simpa using hn)
      cases sp with
      | none => simp [Builtin.append_, run_underlying ht, Builtin.lenOf, Builtin.firstCells, sizeOf, typeInfo, hq, hi, hadd, hst', show k ≤ cap by omega]
      | some ad =>
        have hl := run_loadCells_list (P := P) w ad [] (by simp)
        simp at hl
        simp [Builtin.append_, run_underlying ht, Builtin.lenOf, Builtin.firstCells, sizeOf, typeInfo, hq, hi, hadd, hl, hst', show k ≤ cap by omega]
    · obtain ⟨ad, rfl, hc⟩ := hsrc hp
      have hl := run_loadCells_list (P := P) w ad cs hc
      rw [hn] at hl
      simp [Builtin.append_, run_underlying ht, Builtin.lenOf, Builtin.firstCells, sizeOf, typeInfo, hq, hi, hadd, hl, hst', hroom]
end Go.Proofs.Ytgodnpngdbelhaa.Na
namespace Go.Proofs.Ytgodnpngdbelhaa.Na
open Go.RowKit
set_option linter.unusedVariables false
open Go.Proofs.Ytgodnpngdbelhaa.M (E V)

/-- The cells of votes. -/
abbrev CC (l : List V) : List Value := vl.cells l
theorem C_len (l : List V) : (CC l).length = l.length * 4 := vl.clen l
theorem C_take (l : List V) (k : Nat) : (CC l).take (k * 4) = CC (l.take k) := vl.take l k
theorem C_drop (l : List V) (k : Nat) : (CC l).drop (k * 4) = CC (l.drop k) := vl.drop l k
theorem C_one (l : List V) : ∀ v ∈ CC l, v.oneCell' = true := vl.ones l
theorem C_app (l q : List V) : CC (l ++ q) = CC l ++ CC q := vl.app l q
theorem C_tl (P : List V) (i : Nat) (hi : i ≤ P.length) : (CC (P.take i)).length = i * 4 := by rw [C_len, List.length_take, Nat.min_eq_left hi]
theorem splice_at {α : Type} (L A B : List α) (h : L.take A.length = A) : splice L A.length B = A ++ (B ++ L.drop (A.length + B.length)) := by unfold splice; rw [h]
theorem take_abc {α : Type} (A B C D : List α) (k : Nat) (hk : k = A.length + B.length + C.length) : (A ++ (B ++ (C ++ D))).take k = A ++ B ++ C := by
  have e : A ++ (B ++ (C ++ D)) = (A ++ B ++ C) ++ D := by simp
  rw [e, List.take_append_of_le_length (by simp; omega), List.take_of_length_le (by simp; omega)]
theorem splice_bc {α : Type} (L A B C : List α) (h : L.take A.length = A) : (splice (splice L A.length B) (A.length + B.length) C).take (A.length + B.length + C.length) = A ++ B ++ C := by
  rw [splice_at L A B h]
  generalize L.drop (A.length + B.length) = D
  have h1 : (A ++ (B ++ D)).take (A ++ B).length = A ++ B := by
    rw [← List.append_assoc, List.take_left]
  have := splice_at _ (A ++ B) C h1
  rw [show A.length + B.length = (A ++ B).length by simp, this, List.append_assoc A B]
  exact take_abc A B C _ _ (by simp)
theorem splice_cb {α : Type} (L A B C : List α) (h : L.take A.length = A) (hl : A.length + B.length + C.length ≤ L.length) : (splice (splice L (A.length + B.length) C) A.length B).take (A.length + B.length + C.length) = A ++ B ++ C := by
  have h1 : (splice L (A.length + B.length) C).take A.length = A := by
    unfold splice
    rw [List.take_append_of_le_length (by simp; omega), List.take_take, Nat.min_eq_left (by omega), h]
  rw [splice_at _ A B h1]
  have h2 : (splice L (A.length + B.length) C).drop (A.length + B.length) = C ++ L.drop (A.length + B.length + C.length) := by
    unfold splice
    rw [List.drop_append_of_le_length (by simp; omega), List.drop_of_length_le (by simp; omega), List.nil_append]
  rw [h2]
  exact take_abc A B C _ _ rfl
theorem splice_take {α : Type} (L B : List α) (o k : Nat) (h : k ≤ o) (hl : o ≤ L.length) : (splice L o B).take k = L.take k := by
  unfold splice
  rw [List.take_append_of_le_length (by simp; omega), List.take_take, Nat.min_eq_left h]
/-- A row that is known whole. -/
structure Row (w : World) (g cap : Nat) (cur : List Value) (P : List V) : Prop where
  h : w.heap[g]? = some (.cells cur.toArray 84 (0, 0))
  le : P.length ≤ cap
  mx : cap ≤ maxLen
  sz : cur.length = cap * 4
  eq : cur.take (P.length * 4) = CC P
theorem Row.own {w : World} {g cap base : Nat} {cur : List Value} {P : List V} (h : Row w g cap cur P) (hb : base ≤ g) : OwnL vl 84 w base (.slice (some ⟨g, 0, none⟩) P.length cap) P :=
  ⟨C_len P, .inr ⟨g, cap, cur.toArray, rfl, hb, h.h, h.le, h.mx, by rw [List.size_toArray]; exact h.sz, by rw [List.toList_toArray]; exact h.eq⟩⟩
theorem _root_.Go.Proofs.Ytgodnpngdbelhaa.OwnL.row {w : World} {base : Nat} {v : Value} {P : List V} (h : OwnL vl 84 w base v P) : (v = .slice none 0 0 ∧ P = []) ∨ ∃ g cap cur, v = .slice (some ⟨g, 0, none⟩) P.length cap ∧ base ≤ g ∧ Row w g cap cur P := by
  rcases h.2 with ⟨hv, h0⟩ | ⟨g, cap, cur, hv, hb, hh, hc, hm, hs, ht⟩
  · exact .inl ⟨hv, List.length_eq_zero_iff.1 h0⟩
  · exact .inr ⟨g, cap, cur.toList, hv, hb, ⟨by simpa using hh, hc, hm, by rw [Array.length_toList]; exact hs, ht⟩⟩
theorem Row.at {w : World} {g cap : Nat} {cur : List Value} {P : List V} (h : Row w g cap cur P) (i : Nat) : ∀ j v, (CC (P.drop i))[j]? = some v → w.cell? ((⟨g, i * 4, none⟩ : Addr).add j) = some v := by
  intro j v hj
  rw [← C_drop, List.getElem?_drop, ← h.eq, List.getElem?_take] at hj
  split at hj
  · rw [show ((⟨g, i * 4, none⟩ : Addr).add j) = ⟨g, i * 4 + j, none⟩ by unfold Addr.add; split <;> simp_all, cell_of_row w g (i * 4 + j) _ _ _ h.h]
    simpa using hj
  · cases hj
theorem Row.at0 {w : World} {g cap : Nat} {cur : List Value} {P : List V} (h : Row w g cap cur P) : ∀ j v, (CC P)[j]? = some v → w.cell? ((⟨g, 0, none⟩ : Addr).add j) = some v := by
  have := h.at 0
  simpa using this
theorem Row.shape {w : World} {g cap : Nat} {cur : List Value} {P : List V} (h : Row w g cap cur P) : w.shape? g = some (84, cap * 4) := by
  unfold World.shape?
  rw [h.h]
  simp [h.sz]
theorem Row.free {w : World} {g cap : Nat} {cur : List Value} {P : List V} (h : Row w g cap cur P) (j : Nat) : w.frozen? ⟨g, j, none⟩ = false := frozen_of_row w g j _ _ h.h
theorem Row.of {w w' : World} {g cap : Nat} {cur : List Value} {P : List V} (h : Row w g cap cur P) (hb : w'.heap[g]? = w.heap[g]?) : Row w' g cap cur P := ⟨by rw [hb]; exact h.h, h.le, h.mx, h.sz, h.eq⟩
theorem Row.set {w : World} {g cap : Nat} {cur : List Value} {P : List V} (h : Row w g cap cur P) (cur' : List Value) (P' : List V) (hl : cur'.length = cap * 4) (hp : P'.length ≤ cap) (he : cur'.take (P'.length * 4) = CC P') : Row (w.setRow g cur'.toArray) g cap cur' P' :=
  ⟨setRow_heap w g _ _ _ _ h.h, hp, h.mx, hl, he⟩
theorem grown_setRow (w : World) (g : Nat) (cs : Array Value) : w.grownBy (w.setRow g cs) (some g) := ⟨rfl, rfl, rfl, by simp [World.setRow], fun k hk hne => setRow_other w g k cs (fun e => hne (by rw [e]))⟩
theorem overlaps_no {w : World} {g g' cap cap' : Nat} {cur cur' : List Value} {P P' : List V} (h : Row w g cap cur P) (h' : Row w g' cap' cur' P') (hne : g ≠ g') (hc : 0 < cap') (o o' la ca lb cb : Nat) :
    (callFunc 100 #[.slice (some ⟨g, o, none⟩) la ca, .slice (some ⟨g', o', none⟩) lb cb]).run Try.prog w = .ok (.value (.bool false)) w := by
  rw [run_callFunc_extern Try.func100 (by kernel_rfl) (by kernel_rfl) (by kernel_rfl) (e := Extern.SlicesOverlaps.overlaps #[61, 61] #[4]) (by kernel_rfl),
    Lib.run_overlaps_apart w 61 4 84 Try.underlying61 4 (fun w => by simp) ⟨g, o, none⟩ ⟨g', o', none⟩ la ca lb cb hne 84 84 (cap * 4) (cap' * 4) h.shape h'.shape (by omega) (h.free _) (h.free _)]
  rfl

set_option maxHeartbeats 4000000 in
set_option maxRecDepth 100000 in
theorem insert_room {w : World} {g cap gq capq : Nat} {cur curq : List Value} {P Q : List V} (i : Nat) (hr : Row w g cap cur P) (hq : Row w gq capq curq Q) (hne : gq ≠ g) (hi : i < P.length) (hm : 0 < Q.length) (hroom : P.length + Q.length ≤ cap) (hP : P.length ≤ 1000000) (hQ : Q.length ≤ 1000000) :
    Calls Try.prog 97 #[.slice (some ⟨g, 0, none⟩) P.length cap, .int .i64 i, .slice (some ⟨gq, 0, none⟩) Q.length capq] w fun e w' =>
      e = .returned (.slice (some ⟨g, 0, none⟩) (P.length + Q.length) cap) ∧ w' = (w.drew.setRow g (splice cur ((i + Q.length) * 4) (CC (P.drop i))).toArray).setRow g (splice (splice cur ((i + Q.length) * 4) (CC (P.drop i))) (i * 4) (CC Q)).toArray := by
  have hmx : cap ≤ 9223372036854775807 := by have := hr.mx; unfold maxLen at this; omega
  have hsz := hr.sz
  have hov := fun lb cb => overlaps_no hq hr hne (by omega) 0 ((i + Q.length) * 4) Q.length capq lb cb
  have hdl : (CC (P.drop i)).length = (P.length - i) * 4 := by rw [C_len, List.length_drop]
  have hcp1 : ∀ ty dc sc, (Builtin.copy_ #[61, 61] ty #[.slice (some ⟨g, (i + Q.length) * 4, none⟩) (P.length + Q.length - (i + Q.length)) dc, .slice (some ⟨g, i * 4, none⟩) (P.length + Q.length - i) sc]).run Try.prog w.drew = .ok (goInt (P.length - i : Nat)) (w.drew.setRow g (splice cur ((i + Q.length) * 4) (CC (P.drop i))).toArray) := fun ty dc sc =>
    run_copy4 w.drew 61 61 ty 84 g ((i + Q.length) * 4) _ dc _ _ sc cur 84 (CC (P.drop i)) (P.length - i) Try.underlying61 Try.size84 hr.h (by simp only [Nat.min_def]; split <;> omega) hdl (fun _ => ⟨_, rfl, hr.at i⟩) (by rw [hdl, hsz]; omega) (C_one _)
  have hl1 : (splice cur ((i + Q.length) * 4) (CC (P.drop i))).length = cap * 4 := by rw [length_splice _ _ _ (by rw [hdl, hsz]; omega), hsz]
  obtain ⟨c1, hc1⟩ : ∃ c1, splice cur ((i + Q.length) * 4) (CC (P.drop i)) = c1 := ⟨_, rfl⟩
  rw [hc1] at hcp1 hl1 ⊢
  obtain ⟨W1, hW1⟩ : ∃ W1, w.drew.setRow g c1.toArray = W1 := ⟨_, rfl⟩
  have hh1 : W1.heap[g]? = some (.cells c1.toArray 84 (0, 0)) := by rw [← hW1]; exact setRow_heap w.drew g _ _ _ _ hr.h
  have hq1 : Row W1 gq capq curq Q := hq.of (by rw [← hW1]; exact setRow_other w.drew g gq _ hne)
  have hcp2 : ∀ ty dc, (Builtin.copy_ #[61, 61] ty #[.slice (some ⟨g, i * 4, none⟩) (P.length + Q.length - i) dc, .slice (some ⟨gq, 0, none⟩) Q.length capq]).run Try.prog W1 = .ok (goInt Q.length) (W1.setRow g (splice c1 (i * 4) (CC Q)).toArray) := fun ty dc =>
    run_copy4 W1 61 61 ty 84 g (i * 4) _ dc _ _ capq c1 84 (CC Q) Q.length Try.underlying61 Try.size84 hh1 (by simp only [Nat.min_def]; split <;> omega) (C_len Q) (fun _ => ⟨_, rfl, hq1.at0⟩) (by rw [C_len, hl1]; omega) (C_one _)
  rw [hW1] at hcp1 ⊢
  generalize (splice c1 (i * 4) (CC Q)).toArray = c2 at *
  generalize hn' : P.length = n at *
  generalize hm' : Q.length = m at *
  have hz1 : ¬ ((m : Int) = 0) := by omega
  have hz2 : ¬ ((i : Int) = (n : Int)) := by omega
  have hw1 : IntKind.i64.wrap ((i : Int) + (m : Int)) = (i : Int) + (m : Int) := by rw [IntKind.wrap_i64]; omega
  have hb1 : (0 : Int) ≤ (i : Int) + (m : Int) := by omega
  have hin : i ≤ n := by omega
  have htn : ((i : Int) + (m : Int)).toNat = i + m := by omega
  have hb2 : ¬ (cap = i + m) := by omega
  have hb3 : (i : Int) ≤ (n : Int) + (m : Int) := by omega
  have hb4 : ¬ (cap = i) := by omega
  clear hq hr hq1 hh1 hl1 hc1 hW1 hdl hsz hn' hm' hne
  go_enter Try.func97, Try.ntmps97
  go_wp2_with (simp only [hov])
  go_region_law (refine step_copy_runI rfl _ _ 61 61 rfl _ _ (by simp [Act.eval, Act.put]) (by simp [Act.eval, Act.put]) (hcp1 _ _ _) ?_)
  all_goals
    go_wp2_with (at_builtin; refine wpList_copy_runI _ rfl _ _ 61 61 rfl _ _ rfl rfl (hcp2 _ _) ?_)
    go_ret
    exact ⟨rfl, rfl⟩

set_option maxHeartbeats 4000000 in
set_option maxRecDepth 100000 in
theorem insert_none {w : World} (a a' : Option Addr) (n cap capq : Nat) (i : Nat) (hi : i ≤ n) (hn : n ≤ cap) (hmx : cap ≤ maxLen) :
    Calls Try.prog 97 #[.slice a n cap, .int .i64 i, .slice a' 0 capq] w fun e w' => e = .returned (.slice a n cap) ∧ w' = w := by
  unfold maxLen at hmx
  cases a with
  | none =>
    go_enter Try.func97, Try.ntmps97
    go_wp2
    all_goals
      go_ret
      exact ⟨rfl, rfl⟩
  | some a =>
    go_enter Try.func97, Try.ntmps97
    go_wp2
    all_goals
      go_ret
      exact ⟨rfl, rfl⟩

def InsOut (w : World) (base : Nat) (v : Value) (l : List V) (x : Ending) (w' : World) : Prop := ∃ v', x = .returned v' ∧ OwnL vl 84 w' base v' l ∧ Rw w v w' v'
set_option maxHeartbeats 4000000 in
set_option maxRecDepth 100000 in
theorem insert_end {w : World} {base gq capq : Nat} {curq : List Value} {P Q : List V} (v : Value) (hb : base ≤ w.heap.size) (ho : OwnL vl 84 w base v P) (hq : Row w gq capq curq Q) (hm : 0 < Q.length) (hP : P.length ≤ 1000000) (hQ : Q.length ≤ 1000000) :
    Calls Try.prog 97 #[v, .int .i64 P.length, .slice (some ⟨gq, 0, none⟩) Q.length capq] w (InsOut w base v (P ++ Q)) := by
  have hz1 : ¬ ((Q.length : Int) = 0) := by omega
  have HO : Hid (OwnL vl 84 w base v P) := ho
  have HL : Hid (vl.cells (P ++ Q) = CC P ++ CC Q ∧ (P ++ Q).length = P.length + Q.length) := ⟨C_app _ _, by simp⟩
  have HN : Hid (∀ j u, (CC Q)[j]? = some u → w.cell? ((⟨gq, 0, none⟩ : Addr).add j) = some u) := hq.at0
  have HQ : Hid ((CC Q).length = Q.length * 4) := C_len Q
  have H1 : Hid (∀ u ∈ CC Q, u.oneCell' = true) := C_one Q
  obtain ⟨a, cap, rfl, hxl, _⟩ := ho.at
  have hcap := hxl.le
  have HA : Hid (a = none → cap = 0) := by
    rcases ho.2 with ⟨h, _⟩ | ⟨g, c, _, h, _⟩
    · intro _; simp at h; exact h.2.2
    · intro e; subst e; simp at h
  have hmx : cap ≤ 9223372036854775807 := by
    rcases ho.2 with ⟨h, _⟩ | ⟨g, c, _, h, _, _, _, h2, _⟩
    · simp at h; omega
    · simp at h; unfold maxLen at h2; omega
  clear hq ho hxl
  cases a with
  | none =>
    obtain rfl := HA.out rfl
    have h0 : P.length = 0 := by omega
    have HO' : Hid (w.ownsRow base 84 4 (.slice none P.length 0) P.length (CC P)) := HO.out
    generalize P.length = n at *
    subst h0
    go_enter Try.func97, Try.ntmps97
    go_wp2_with (at_builtin; refine wpList_append_lies2 _ rfl _ _ 61 61 rfl base 84 84 Try.t84 _ 4 40 Try.underlying61 Try.underlying61 hi84 hz84 hs84 hb84 rfl (by decide) _ _ _ rfl HO'.out ⟨gq, 0, none⟩ Q.length capq (CC Q) rfl HQ.out HN.out H1.out hm (by unfold maxLen; omega) (by omega) hb _ rfl ?_; intro g3 cp w3 hown3 hgrow hat hlt)
    go_ret
    refine ⟨_, rfl, ?_, rw_lies (v := .slice none 0 0) hgrow hat rfl⟩
    unfold OwnL
    rw [HL.out.1, HL.out.2, Nat.zero_add]
    rw [Nat.zero_add] at hown3
    exact hown3
  | some ad =>
    have HO' : Hid (w.ownsRow base 84 4 (.slice (some ad) P.length cap) P.length (CC P)) := HO.out
    generalize hn' : P.length = n at *
    clear hn'
    go_enter Try.func97, Try.ntmps97
    go_wp2_with (at_builtin; refine wpList_append_lies2 _ rfl _ _ 61 61 rfl base 84 84 Try.t84 _ 4 40 Try.underlying61 Try.underlying61 hi84 hz84 hs84 hb84 rfl (by decide) _ _ _ rfl HO'.out ⟨gq, 0, none⟩ Q.length capq (CC Q) rfl HQ.out HN.out H1.out hm (by unfold maxLen; omega) (by omega) hb _ rfl ?_; intro g3 cp w3 hown3 hgrow hat hlt)
    all_goals
      go_ret
      refine ⟨_, rfl, ?_, rw_lies (v := .slice (some ad) n _) hgrow hat rfl⟩
      unfold OwnL
      rw [HL.out.1, HL.out.2]
      exact hown3

theorem Row.pre {w : World} {g cap : Nat} {cur : List Value} {P : List V} (h : Row w g cap cur P) (i : Nat) (hi : i ≤ P.length) : cur.take (i * 4) = CC (P.take i) := by
  rw [← C_take, ← h.eq, List.take_take, Nat.min_eq_left (by omega)]
set_option maxHeartbeats 4000000 in
set_option maxRecDepth 100000 in
theorem insert_grow {w : World} {g cap base gq capq : Nat} {cur curq : List Value} {P Q : List V} (i : Nat) (hbw : base ≤ w.heap.size) (hr : Row w g cap cur P) (hq : Row w gq capq curq Q) (hi : i < P.length) (hm : 0 < Q.length) (hroom : cap < P.length + Q.length) (hP : P.length ≤ 1000000) (hQ : Q.length ≤ 1000000) :
    Calls Try.prog 97 #[.slice (some ⟨g, 0, none⟩) P.length cap, .int .i64 i, .slice (some ⟨gq, 0, none⟩) Q.length capq] w (InsOut w base (.slice (some ⟨g, 0, none⟩) P.length cap) (P.take i ++ Q ++ P.drop i)) := by
  have hsz := hr.sz
  have hgw : g < w.heap.size := (Array.getElem?_eq_some_iff.1 hr.h).1
  have hqw : gq < w.heap.size := (Array.getElem?_eq_some_iff.1 hq.h).1
  have hdl : (CC (P.drop i)).length = (P.length - i) * 4 := by rw [C_len, List.length_drop]
  have hpl := C_tl P i (by omega)
  have hle := hr.le
  obtain ⟨G, hG⟩ : ∃ G, G = grownCap w (P.length + Q.length) cap 84 := ⟨_, rfl⟩
  have hGn : P.length + Q.length ≤ G := by rw [hG]; exact grownCap_ge w _ _ _
  have hGm : G ≤ maxLen := by rw [hG]; exact grownCap_le_maxLen w _ _ _ (by unfold maxLen; omega)
  obtain ⟨Z, hZ⟩ : ∃ Z : List Value, ((CC (P.take i)).toArray ++ Builtin.zeroCells (Value.agg #[.int .i64 0, .int .i64 0, .int .i64 0, .string ⟨#[]⟩]).cells (P.length + Q.length - i) ++ Builtin.zeroCells (Value.agg #[.int .i64 0, .int .i64 0, .int .i64 0, .string ⟨#[]⟩]).cells (G - (P.length + Q.length))) = Z.toArray := ⟨_, (Array.toArray_toList).symm⟩
  have hZl : Z.length = G * 4 := by
    have := congrArg Array.size hZ
    simp [size_zeroCells, hpl, Value.cells] at this
    omega
  have hZt : Z.take (i * 4) = CC (P.take i) := by
    have := congrArg Array.toList hZ
    simp only [Array.toList_append, List.append_assoc] at this
    rw [← this, List.take_append_of_le_length (by simp [hpl]), List.take_of_length_le (by simp [hpl])]
  have hold : (Builtin.firstCells Try.t84.size i (.slice (some ⟨g, 0, none⟩) i cap)).run Try.prog w.drew = .ok (CC (P.take i)).toArray w.drew := by
    rw [hs84]
    refine run_firstCells_some w.drew 4 i ⟨g, 0, none⟩ i cap _ hpl (fun j v hj => ?_)
    rw [← C_take, List.getElem?_take] at hj
    split at hj
    · exact hr.at0 j v hj
    · cases hj
  have hik : i + (P.length + Q.length - i) = P.length + Q.length := by omega
  have hrz : ∀ ty, (Builtin.append_ #[61, 3] ty #[.slice (some ⟨g, 0, none⟩) i cap, .int .i64 ((P.length : Int) + (Q.length : Int) - (i : Int))]).run Try.prog w =
      .ok (.slice (some ⟨w.heap.size, 0, none⟩) (P.length + Q.length) G) (w.drew.alloc (.cells Z.toArray 84)) := fun ty => by
    have h := Lib.run_append_grow_zeros (P := Try.prog) w 61 3 ty 84 Try.t84 _ .i64 .i64 Try.underlying61 Try.underlying3 hi84 hz84 (some ⟨g, 0, none⟩) i cap (CC (P.take i)) hold (P.length + Q.length - i) (by omega) (by decide) (by omega) (by omega) (by rw [hb84]; omega) (by rw [hb84, hik]; exact growslice_fits (by omega) (by omega))
    rw [hik, ← hG, hZ] at h
    rw [show (P.length : Int) + (Q.length : Int) - (i : Int) = ((P.length + Q.length - i : Nat) : Int) by omega]
    exact h
  obtain ⟨W1, hW1⟩ : ∃ W1, w.drew.alloc (.cells Z.toArray 84) = W1 := ⟨_, rfl⟩
  rw [hW1] at hrz
  have hh1 : W1.heap[w.heap.size]? = some (.cells Z.toArray 84 (0, 0)) := by rw [← hW1]; exact heap_alloc_last w.drew _
  have hold1 : ∀ k, k < w.heap.size → W1.heap[k]? = w.heap[k]? := fun k hk => by rw [← hW1]; exact Below.heap_alloc w.drew _ _ hk
  have hq1 : Row W1 gq capq curq Q := hq.of (hold1 _ hqw)
  have hcpA : ∀ ty dc, (Builtin.copy_ #[61, 61] ty #[.slice (some ⟨w.heap.size, i * 4, none⟩) (P.length + Q.length - i) dc, .slice (some ⟨gq, 0, none⟩) Q.length capq]).run Try.prog W1 = .ok (goInt Q.length) (W1.setRow w.heap.size (splice Z (i * 4) (CC Q)).toArray) := fun ty dc =>
    run_copy4 W1 61 61 ty 84 w.heap.size (i * 4) _ dc _ _ capq Z 84 (CC Q) Q.length Try.underlying61 Try.size84 hh1 (by simp only [Nat.min_def]; split <;> omega) (C_len Q) (fun _ => ⟨_, rfl, hq1.at0⟩) (by rw [C_len, hZl]; omega) (C_one _)
  have hl2 : (splice Z (i * 4) (CC Q)).length = G * 4 := by rw [length_splice _ _ _ (by rw [C_len, hZl]; omega), hZl]
  obtain ⟨W2, hW2⟩ : ∃ W2, (W1.setRow w.heap.size (splice Z (i * 4) (CC Q)).toArray) = W2 := ⟨_, rfl⟩
  rw [hW2] at hcpA
  have hh2 : W2.heap[w.heap.size]? = some (.cells (splice Z (i * 4) (CC Q)).toArray 84 (0, 0)) := by rw [← hW2]; exact setRow_heap W1 _ _ _ _ _ hh1
  have hr2 : Row W2 g cap cur P := (hr.of (hold1 _ hgw)).of (by rw [← hW2]; exact setRow_other W1 _ g _ (by omega))
  have hcpB : ∀ ty dc sc, (Builtin.copy_ #[61, 61] ty #[.slice (some ⟨w.heap.size, (i + Q.length) * 4, none⟩) (P.length + Q.length - (i + Q.length)) dc, .slice (some ⟨g, i * 4, none⟩) (P.length - i) sc]).run Try.prog W2.drew = .ok (goInt (P.length - i : Nat)) (W2.drew.setRow w.heap.size (splice (splice Z (i * 4) (CC Q)) ((i + Q.length) * 4) (CC (P.drop i))).toArray) := fun ty dc sc =>
    run_copy4 W2.drew 61 61 ty 84 w.heap.size ((i + Q.length) * 4) _ dc _ _ sc _ 84 (CC (P.drop i)) (P.length - i) Try.underlying61 Try.size84 hh2 (by simp only [Nat.min_def]; split <;> omega) hdl (fun _ => ⟨_, rfl, hr2.at i⟩) (by rw [hdl, hl2]; omega) (C_one _)
  have HK : Hid (InsOut w base (.slice (some ⟨g, 0, none⟩) P.length cap) (P.take i ++ Q ++ P.drop i) (.returned (.slice (some ⟨w.heap.size, 0, none⟩) (P.length + Q.length) G)) (W2.drew.setRow w.heap.size (splice (splice Z (i * 4) (CC Q)) ((i + Q.length) * 4) (CC (P.drop i))).toArray)) := by
    have hl3 : (P.take i ++ Q ++ P.drop i).length = P.length + Q.length := by simp; omega
    refine ⟨_, rfl, ?_, ⟨⟨?_, ?_, ?_, ?_, fun k hk _ => ?_⟩, fun k hk => ?_⟩⟩
    · rw [← hl3]
      refine Row.own (cur := splice (splice Z (i * 4) (CC Q)) ((i + Q.length) * 4) (CC (P.drop i))) ⟨setRow_heap W2.drew _ _ _ _ _ hh2, by rw [hl3]; exact hGn, hGm, by rw [length_splice _ _ _ (by rw [hdl, hl2]; omega), hl2], ?_⟩ hbw
      have := splice_bc Z (CC (P.take i)) (CC Q) (CC (P.drop i)) (by rw [hpl]; exact hZt)
      rw [hpl, C_len Q, hdl, show i * 4 + Q.length * 4 = (i + Q.length) * 4 by omega, show (i + Q.length) * 4 + (P.length - i) * 4 = (P.length + Q.length) * 4 by omega] at this
      rw [hl3, C_app, C_app]
      exact this
    · rw [← hW2, ← hW1]; rfl
    · rw [← hW2, ← hW1]; rfl
    · rw [← hW2, ← hW1]; rfl
    · rw [← hW2, ← hW1]; simp [World.setRow]
    · have e1 : (W2.drew.setRow w.heap.size (splice (splice Z (i * 4) (CC Q)) ((i + Q.length) * 4) (CC (P.drop i))).toArray).heap[k]? = W2.heap[k]? := setRow_other W2.drew _ k _ (by omega)
      have e2 : W2.heap[k]? = W1.heap[k]? := by rw [← hW2]; exact setRow_other W1 _ k _ (by omega)
      rw [e1, e2, hold1 k hk]
    · simp only [Value.ownBlock, Option.some.injEq] at hk
      exact .inr (by omega)
  generalize (splice (splice Z (i * 4) (CC Q)) ((i + Q.length) * 4) (CC (P.drop i))).toArray = c2 at *
  generalize (P.take i ++ Q ++ P.drop i) = RR at *
  generalize hn' : P.length = n at *
  generalize hm' : Q.length = m at *
  have hz1 : ¬ ((m : Int) = 0) := by omega
  have hz2 : ¬ ((i : Int) = (n : Int)) := by omega
  have hz3 : (cap : Int) < (n : Int) + (m : Int) := by omega
  have hw1 : IntKind.i64.wrap ((i : Int) + (m : Int)) = (i : Int) + (m : Int) := by rw [IntKind.wrap_i64]; omega
  have hb1 : (0 : Int) ≤ (i : Int) + (m : Int) := by omega
  have hin : i ≤ n := by omega
  have htn : ((i : Int) + (m : Int)).toNat = i + m := by omega
  have hG63 : G ≤ 9223372036854775807 := by unfold maxLen at hGm; omega
  have hGi : ¬ (G = i) := by omega
  have hGim : ¬ (G = i + m) := by omega
  have hci : ¬ (cap = i) := by omega
  have hb3 : (i : Int) ≤ (n : Int) := by omega
  clear hq hr hq1 hh1 hW1 hW2 hdl hsz hn' hm' hh2 hr2 hl2 hold1 hold hZ hZl hZt hpl hG hik hGm
  go_enter Try.func97, Try.ntmps97
  go_wp2_with (first
    | (at_builtin; refine Lib.wpList_append_run _ rfl _ _ _ _ rfl _ _ rfl rfl _ _ (hrz _) ?_)
    | (at_builtin; refine wpList_copy_runI _ rfl _ _ 61 61 rfl _ _ rfl rfl (hcpA _ _) ?_))
  go_region_law (refine step_copy_runI rfl _ _ 61 61 rfl _ _ (by simp [Act.eval, Act.put]) (by simp [Act.eval, Act.put]) (hcpB _ _ _) ?_)
  all_goals
    go_wp2
    go_ret
    exact HK.out

/-- What is handed over: nothing, or a row of its own that lies elsewhere. -/
def Arg (w : World) (v u : Value) (Q : List V) : Prop := (u = .slice none 0 0 ∧ Q = []) ∨ ∃ gq capq curq, u = .slice (some ⟨gq, 0, none⟩) Q.length capq ∧ Row w gq capq curq Q ∧ v.ownBlock ≠ some gq ∧ 0 < Q.length
theorem insert_any {w : World} {base : Nat} {v u : Value} {P Q : List V} (i : Nat) (hb : base ≤ w.heap.size) (ho : OwnL vl 84 w base v P) (ha : Arg w v u Q) (hi : i ≤ P.length) (hP : P.length ≤ 1000000) (hQ : Q.length ≤ 1000000) :
    Calls Try.prog 97 #[v, .int .i64 i, u] w (InsOut w base v (P.take i ++ Q ++ P.drop i)) := by
  rcases ha with ⟨rfl, rfl⟩ | ⟨gq, capq, curq, rfl, hq, hne, hm⟩
  · rw [List.append_nil, List.take_append_drop]
    rcases ho.row with ⟨rfl, rfl⟩ | ⟨g, cap, cur, rfl, hbg, hr⟩
    · refine (insert_none none none 0 0 0 i hi (Nat.le_refl _) (by decide)).mono ?_
      rintro e w1 ⟨rfl, rfl⟩
      exact ⟨_, rfl, ho, Rw.refl _ _⟩
    · refine (insert_none _ none _ cap 0 i hi hr.le hr.mx).mono ?_
      rintro e w1 ⟨rfl, rfl⟩
      exact ⟨_, rfl, ho, Rw.refl _ _⟩
  · rcases Nat.eq_or_lt_of_le hi with rfl | hlt
    · rw [List.take_length, List.drop_length, List.append_nil]
      exact insert_end v hb ho hq hm hP hQ
    · rcases ho.row with ⟨rfl, rfl⟩ | ⟨g, cap, cur, rfl, hbg, hr⟩
      · simp at hlt
      · have hne' : gq ≠ g := fun e => hne (by rw [e]; rfl)
        rcases Nat.lt_or_ge cap (P.length + Q.length) with hc | hc
        · exact insert_grow i hb hr hq hlt hm hc hP hQ
        · refine (insert_room i hr hq hne' hlt hm hc hP hQ).mono ?_
          rintro e w1 ⟨rfl, rfl⟩
          have hsz := hr.sz
          have hdl : (CC (P.drop i)).length = (P.length - i) * 4 := by rw [C_len, List.length_drop]
          have hpl := C_tl P i (by omega)
          have hl1 : (splice cur ((i + Q.length) * 4) (CC (P.drop i))).length = cap * 4 := by rw [length_splice _ _ _ (by rw [hdl, hsz]; omega), hsz]
          have hl3 : (P.take i ++ Q ++ P.drop i).length = P.length + Q.length := by simp; omega
          refine ⟨_, rfl, ?_, ⟨?_, fun k hk => .inl hk⟩⟩
          · rw [← hl3]
            refine Row.own (cur := splice (splice cur ((i + Q.length) * 4) (CC (P.drop i))) (i * 4) (CC Q)) ⟨setRow_heap _ _ _ _ _ _ (setRow_heap w.drew g _ _ _ _ hr.h), by rw [hl3]; exact hc, hr.mx, by rw [length_splice _ _ _ (by rw [C_len, hl1]; omega), hl1], ?_⟩ hbg
            have := splice_cb cur (CC (P.take i)) (CC Q) (CC (P.drop i)) (by rw [hpl]; exact hr.pre i (by omega)) (by rw [hpl, C_len Q, hdl, hsz]; omega)
            rw [hpl, C_len Q, hdl, show i * 4 + Q.length * 4 = (i + Q.length) * 4 by omega, show (i + Q.length) * 4 + (P.length - i) * 4 = (P.length + Q.length) * 4 by omega] at this
            rw [hl3, C_app, C_app]
            exact this
          · have g1 := grown_setRow w.drew g (splice cur ((i + Q.length) * 4) (CC (P.drop i))).toArray
            have g2 := grown_setRow (w.drew.setRow g (splice cur ((i + Q.length) * 4) (CC (P.drop i))).toArray) g (splice (splice cur ((i + Q.length) * 4) (CC (P.drop i))) (i * 4) (CC Q)).toArray
            exact ⟨rfl, rfl, rfl, Nat.le_trans g1.size g2.size, fun k hk hn => (g2.block k (Nat.lt_of_lt_of_le hk g1.size) hn).trans (g1.block k hk hn)⟩
theorem wpList_clear_runI {P : Program} (w : World) {ops : Array Oper} {rest : List Oper} {o : Oper} {a : Act} {Q : Exit → Act → World → Prop} (hgd : o.guard = none) (d : Operand) (t : TypeId)
    (ho : o.op = .call { callee := .builtin .clear, args := #[d], argTypes := #[t] }) (v : Value) (hd : a.eval d = v) {v' : Value} {w' : World}
    (hr : (Builtin.clear_ #[t] o.type #[v]).run P w = .ok v' w') (h : wpList P ops Q rest (a.put o.dst v') w') : wpList P ops Q (o :: rest) a w :=
  wpList_plain hgd fun _ hK => by
    unfold Oper.wp execOp
    simp only [ho, resolve, invoke, builtin, Sem.run_bind, Sem.run_pure, Result.andThen_ok, List.map_toArray, List.map_cons, List.map_nil, hd, hr]
    exact hK _ _ h
theorem zv84 (w : World) : (zeroValue 84).run Try.prog w = .ok (.agg #[.int .i64 0, .int .i64 0, .int .i64 0, .string ⟨#[]⟩]) w := by simp
/-- The row g alone has changed. -/
structure InG (w w' : World) (g : Nat) : Prop where
  g : w.grownBy w' (some g)
theorem InG.refl (w : World) (g : Nat) : InG w w g := ⟨⟨rfl, rfl, rfl, Nat.le_refl _, fun _ _ _ => rfl⟩⟩
theorem InG.set {w w1 : World} {g : Nat} (h : InG w w1 g) (cs : Array Value) : InG w (w1.setRow g cs) g := by
  have g2 := grown_setRow w1 g cs
  exact ⟨⟨h.g.os, h.g.tape, h.g.output, Nat.le_trans h.g.size g2.size, fun k hk hn => (g2.block k (Nat.lt_of_lt_of_le hk h.g.size) hn).trans (h.g.block k hk hn)⟩⟩
theorem InG.drew {w w1 : World} {g : Nat} (h : InG w w1 g) : InG w w1.drew g := ⟨⟨h.g.os, h.g.tape, h.g.output, h.g.size, h.g.block⟩⟩
theorem InG.rw {w w1 : World} {g n c n' c' : Nat} (h : InG w w1 g) : Rw w (.slice (some ⟨g, 0, none⟩) n c) w1 (.slice (some ⟨g, 0, none⟩) n' c') := ⟨h.g, fun k hk => .inl hk⟩

end Go.Proofs.Ytgodnpngdbelhaa.Na
