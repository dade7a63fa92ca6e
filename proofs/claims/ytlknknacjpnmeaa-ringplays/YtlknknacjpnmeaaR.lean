/-
  The document's bounded row: a new one; a text goes in; the i-th one; the first go.
-/
import Derived.Test.YtlknknacjpnmeaaC
import Derived.Laws.ResultCell
namespace Go.Proofs.Ytlknknacjpnmeaa
open Go.RowKit
set_option linter.unusedVariables false

theorem Try.size29 : (Try.prog.info? 29).map (·.size) = some 2 := by kernel_rfl
theorem res_cell_tmp {fn : Func} {p u : Tmp} (h : fn.results = #[.cell p 29, .tmp u]) (tmps : Array Value) (w : World) (g : Nat) (v0 v1 : Value) (hp : tmps.getD p undef = .pointer (some ⟨g, 0, none⟩)) (hg : w.heap[g]? = some (.cells #[v0, v1] 29 (0, 0))) :
    (results fn tmps).run Try.prog w = .ok (.tuple #[.agg #[v0, v1], tmps.getD u undef]) w := by
  have hp' : tmps[p]?.getD undef = .pointer (some ⟨g, 0, none⟩) := by simpa using hp
  rw [results_cell_tmp h]
  simp [asAddr, hp', run_loadVar_row w g 29 29 #[v0, v1] (0, 0) _ hg Try.underlying29 rfl Try.size29]
/-- An append whose run is known, in a plain region. -/
theorem wpList_append_known {P : Program} {w : World} {ops : Array Oper} {rest : List Oper} {o : Oper} {a : Act} {Q : Exit → Act → World → Prop} (hgd : o.guard = none) (s x : Operand) (t : TypeId)
    (ho : o.op = .call { callee := .builtin .append, args := #[s, x], argTypes := #[t, t] }) (v sv : Value) (hs : a.eval s = v) (hx : a.eval x = sv) (v' : Value) (w' : World)
    (hr : (Builtin.append_ #[t, t] o.type #[v, sv]).run P w = .ok v' w') (h : wpList P ops Q rest (a.put o.dst v') w') : wpList P ops Q (o :: rest) a w := by
  refine wpList_plain hgd fun K' hK' => ?_
  unfold Oper.wp execOp
  simp only [ho, resolve, invoke, builtin, Sem.run_bind, Sem.run_pure, Result.andThen_ok, List.map_toArray, List.map_cons, List.map_nil, hs, hx, hr]
  exact hK' _ _ h
/-- The document's texts: they lie somewhere. -/
structure XT (w : World) (a : Option Addr) (cap : Nat) (l : List ByteArray) : Prop where
  at' : AtT w a l
  le : l.length ≤ cap
  mx : cap ≤ maxLen
  nil : a = none → cap = 0
  pl : ∀ ad, a = some ad → ad.spot = none
theorem XT.keepBut {w w' : World} {a : Option Addr} {cap : Nat} {l : List ByteArray} (h : XT w a cap l) (hb : ∀ k, k < w.heap.size → blk a k → w'.heap[k]? = w.heap[k]?) : XT w' a cap l := ⟨h.at'.keepBut hb, h.le, h.mx, h.nil, h.pl⟩
theorem XT.keep {w w' : World} {a : Option Addr} {cap : Nat} {l : List ByteArray} (h : XT w a cap l) (hb : Below w.heap.size w w') : XT w' a cap l := ⟨h.at'.keep hb, h.le, h.mx, h.nil, h.pl⟩
theorem XT.emp (w : World) : XT w none 0 [] := ⟨AtT.nil _ _, by simp, by decide, fun _ => rfl, fun ad h => by cases h⟩
theorem OwnT.xt {w : World} {base : Nat} {v : Value} {l : List ByteArray} (h : OwnT w base v l) : ∃ a cap, v = .slice a l.length cap ∧ XT w a cap l ∧ (∀ k, blk a k → base ≤ k ∧ v.ownBlock = some k ∧ k < w.heap.size) := by
  obtain ⟨a, cap, e, h1, h2, h3, h4, h5⟩ := h.at
  refine ⟨a, cap, e, ⟨h1, h3, h4, h5, fun ad e' => ?_⟩, h2⟩
  subst e'
  rcases h.2 with ⟨rfl, h0⟩ | ⟨g, cap', cur, rfl, _⟩
  · simp at e
  · simp at e
    rw [← e.1]
theorem run_append_nil0 (w : World) (ty : TypeId) (a : Option Addr) (c : Nat) : (Builtin.append_ #[27, 27] ty #[.slice none 0 0, .slice a 0 c]).run Try.prog w = .ok (.slice none 0 0) w := by
  cases a with
  | none => simp [Builtin.append_, run_underlying Try.underlying27, sizeOf, typeInfo, hi9, Builtin.lenOf, Builtin.firstCells]
  | some ad =>
    have hl := run_loadCells_list (P := Try.prog) w ad [] (by simp)
    simp at hl
    simp [Builtin.append_, run_underlying Try.underlying27, sizeOf, typeInfo, hi9, Builtin.lenOf, Builtin.firstCells, hl]
/-- Texts copied into new memory. -/
theorem run_copy (w : World) (a : Option Addr) (c : Nat) (s : List ByteArray) (hs : AtT w a s) (hl : s.length ≤ 1000000) :
    ∃ a' c' w', (∀ ty, (Builtin.append_ #[27, 27] ty #[.slice none 0 0, .slice a s.length c]).run Try.prog w = .ok (.slice a' s.length c') w') ∧ OwnT w' w.heap.size (.slice a' s.length c') s ∧ Below w.heap.size w w' := by
  cases s with
  | nil => exact ⟨none, 0, w, fun ty => run_append_nil0 w ty a c, OwnT.nil _ _, Below.refl _ _⟩
  | cons e r =>
    obtain ⟨b, off, rfl, _⟩ := hs 0 (by simp)
    obtain ⟨g, cap, w', hr, h2, h3, h4, h5⟩ := run_append_lies (P := Try.prog) w 27 0 w.heap.size 9 Try.t9 _ 1 16 Try.underlying27 hi9 hz9 hs9 hb9 rfl (by decide) (.slice none 0 0) 0 [] (World.ownsRow_nil _ _ _ _) ⟨b, off, none⟩ (e :: r).length c (SC (e :: r)) (by rw [SC_len, Nat.mul_one]) (atT_cells hs) (SC_one _) (by simp) (by unfold maxLen; omega) (by omega) (Nat.le_refl _) _ rfl
    rw [Nat.zero_add] at hr h2
    rw [List.nil_append] at h2
    exact ⟨_, cap, w', fun ty => hr, h2, ⟨h3.os, h3.tape, h3.output, h3.size, fun k hk => h3.block k hk (by simp [Value.ownBlock])⟩⟩
/-- What a call leaves of texts: these themselves, or new ones. -/
def XRes (w w' : World) (a : Option Addr) (cap : Nat) (v' : Value) (l l' : List ByteArray) : Prop := (v' = .slice a l.length cap ∧ l' = l) ∨ OwnT w' w.heap.size v' l'
def DpR (w : World) (mo : Int) (a : Option Addr) (cap : Nat) (l l' : List ByteArray) (r : Value) (x : Ending) (w' : World) : Prop := ∃ v', x = .returned (.tuple #[.agg #[.int .i64 mo, v'], r]) ∧ XRes w w' a cap v' l l' ∧ Below w.heap.size w w'
theorem f10_res : Try.f10.results = #[.cell 2 29] := rfl
theorem f11_res : Try.f11.results = #[.cell 4 29, .tmp 5] := rfl
theorem f14_res : Try.f14.results = #[.cell 4 29, .tmp 5] := rfl
set_option maxRecDepth 100000 in
set_option maxHeartbeats 1000000 in
theorem rnew_any (n : Int) (w : World) : Calls Try.prog 10 #[.int .i64 n] w fun e w' => e = .returned (.agg #[.int .i64 (M.lim n), .slice none 0 0]) ∧ Below w.heap.size w w' := by
  obtain ⟨mx, hmx⟩ : ∃ x, max n 1 = x := ⟨_, rfl⟩
  obtain ⟨mn, hmn⟩ : ∃ x, min mx 64 = x := ⟨_, rfl⟩
  have hlim : M.lim n = mn := by unfold M.lim; rw [hmx, hmn]
  rw [hlim]
  have HR := Hid_of (heap_alloc_last w (.cells #[.int .i64 mn, .slice none 0 0] 29))
  have HK : Hid (Below w.heap.size w (w.alloc (.cells #[.int .i64 mn, .slice none 0 0] 29))) := bel1 w _
  clear hlim
  go_enter Try.func10, Try.ntmps10
  go_wp2
  refine bodyPost_ret (v := .agg #[.int .i64 mn, .slice none 0 0]) ?_ rfl ⟨rfl, HK.out⟩
  exact results_cell_row f10_res _ _ w.heap.size 29 _ (0, 0) _ rfl HR.out Try.underlying29 rfl Try.size29
theorem XT.boxed {w : World} {a : Option Addr} {cap : Nat} {l : List ByteArray} (mo : Int) (h : XT w a cap l) :
    ∃ W1, Hid ((w.alloc (.cells #[.int .i64 mo, .slice a l.length cap] 29)).alloc (.cells #[.int .i64 0, .slice none 0 0] 29) = W1) ∧ Below w.heap.size w W1 ∧ W1.heap.size = w.heap.size + 2 ∧ (∀ W, Below W1.heap.size W1 W → W.heap[w.heap.size]? = some (.cells #[.int .i64 mo, .slice a l.length cap] 29 (0, 0)) ∧ W.heap[w.heap.size + 1]? = some (.cells #[.int .i64 0, .slice none 0 0] 29 (0, 0)) ∧ XT W a cap l ∧ Below w.heap.size w W) := by
  refine ⟨_, rfl, (bel1 w _).alloc (by simp) _, by simp, fun W hW => ⟨(hW.block _ (by simp; omega)).trans (heap_alloc2_old w _ _), (hW.block _ (by simp)).trans (heap_alloc2_new w _ _), (h.keep ((bel1 w _).alloc (by simp) _)).keep hW, bel_up ((bel1 w _).alloc (by simp) _) hW (Nat.le_refl _)⟩⟩
/-- A result laid into its block. -/
theorem laid2 {w0 w : World} {g : Nat} {u0 u1 v0 v1 : Value} (h : w.heap[g]? = some (.cells #[u0, u1] 29 (0, 0))) (hb : Below w0.heap.size w0 w) (hg : w0.heap.size ≤ g) :
    ((w.setCell ⟨g, 0, none⟩ v0).setCell ⟨g, 1, none⟩ v1).heap[g]? = some (.cells #[v0, v1] 29 (0, 0)) ∧ Below w0.heap.size w0 ((w.setCell ⟨g, 0, none⟩ v0).setCell ⟨g, 1, none⟩ v1) ∧ ∀ k, k ≠ g → ((w.setCell ⟨g, 0, none⟩ v0).setCell ⟨g, 1, none⟩ v1).heap[k]? = w.heap[k]? :=
  ⟨heap_setCell_same _ g 1 _ _ _ (heap_setCell_same w g 0 _ _ _ h), (hb.setCell hg _).setCell hg _, fun k hk => (heap_setCell_other _ ⟨g, 1, none⟩ k _ hk).trans (heap_setCell_other _ ⟨g, 0, none⟩ k _ hk)⟩
/-- A new row, stored into the box and then into the result. -/
theorem stored {w W1 w2 : World} {mo : Int} {a : Option Addr} {cap : Nat} {l l' : List ByteArray} {v' : Value} {r : Value} (hs1 : W1.heap.size = w.heap.size + 2) (hr0 : w2.heap[w.heap.size]? = some (.cells #[.int .i64 mo, .slice a l.length cap] 29 (0, 0))) (hr1 : w2.heap[w.heap.size + 1]? = some (.cells #[.int .i64 0, .slice none 0 0] 29 (0, 0)))
    (ho : OwnT w2 W1.heap.size v' l') (hB : Below w.heap.size w w2) :
    ∃ W3, Hid (w2.setCell ⟨w.heap.size, 1, none⟩ v' = W3) ∧ W3.heap[w.heap.size]? = some (.cells #[.int .i64 mo, v'] 29 (0, 0)) ∧ W3.heap[w.heap.size + 1]? = some (.cells #[.int .i64 0, .slice none 0 0] 29 (0, 0)) ∧
      ((W3.setCell ⟨w.heap.size + 1, 0, none⟩ (.int .i64 mo)).setCell ⟨w.heap.size + 1, 1, none⟩ v').heap[w.heap.size + 1]? = some (.cells #[.int .i64 mo, v'] 29 (0, 0)) ∧
      DpR w mo a cap l l' r (.returned (.tuple #[.agg #[.int .i64 mo, v'], r])) ((W3.setCell ⟨w.heap.size + 1, 0, none⟩ (.int .i64 mo)).setCell ⟨w.heap.size + 1, 1, none⟩ v') := by
  have hne : ∀ k, v'.ownBlock = some k → w.heap.size + 2 ≤ k := fun k hk => by have := (ho.lt hk).1; omega
  have h0 : (w2.setCell ⟨w.heap.size, 1, none⟩ v').heap[w.heap.size]? = some (.cells #[.int .i64 mo, v'] 29 (0, 0)) := heap_setCell_same w2 _ 1 _ _ _ hr0
  have h1 : (w2.setCell ⟨w.heap.size, 1, none⟩ v').heap[w.heap.size + 1]? = some (.cells #[.int .i64 0, .slice none 0 0] 29 (0, 0)) := (heap_setCell_other w2 ⟨w.heap.size, 1, none⟩ _ _ (by simp)).trans hr1
  obtain ⟨q1, q2, q3⟩ := laid2 (w0 := w) (v0 := .int .i64 mo) (v1 := v') h1 (hB.setCell (Nat.le_refl _) _) (by omega)
  refine ⟨_, rfl, h0, h1, q1, v', rfl, .inr (OwnT.low (base := W1.heap.size) (ho.keepBut fun k hk e => ?_) (by omega)), q2⟩
  have := hne k e
  rw [q3 k (by omega)]
  exact heap_setCell_other w2 ⟨w.heap.size, 1, none⟩ k _ (by show k ≠ w.heap.size; omega)
set_option maxRecDepth 100000 in
set_option maxHeartbeats 1000000 in
theorem rpeek_any (mo : Int) (a : Option Addr) (cap : Nat) (l : List ByteArray) (i : Int) (w : World) (hl : l.length ≤ 1000) (hx : XT w a cap l) :
    Calls Try.prog 13 #[.agg #[.int .i64 mo, .slice a l.length cap], .int .i64 i] w (PkOut w l i) := by
  have HB : Hid (Below w.heap.size w (w.alloc (.cells #[.int .i64 mo, .slice a l.length cap] 29))) := bel1 w _
  obtain ⟨⟨c0, c1⟩, _⟩ := row2 (heap_alloc_last w (.cells #[.int .i64 mo, .slice a l.length cap] 29))
  cases hh : M.has l i with
  | false =>
    obtain ⟨ho, hp⟩ := M.has_no hh
    have HK : Hid (∀ W, Below w.heap.size w W → PkOut w l i (.returned (.tuple #[.string ByteArray.empty, .bool false])) W) := by intro W hW; unfold PkOut; rw [hp, hh]; exact ⟨rfl, hW⟩
    clear hp hh hx
    by_cases hi : i < 0
    · have hd : decide (i < 0) = true := by simpa using hi
      clear ho
      go_enter Try.func13, Try.ntmps13
      go_wp2
      go_ret2
      exact HK.out _ HB.out
    · have hd : decide (i < 0) = false := by simpa using hi
      have hi' : (l.length : Int) ≤ i := by omega
      clear ho
      go_enter Try.func13, Try.ntmps13
      go_wp2
      go_ret2
      exact HK.out _ HB.out
  | true =>
    obtain ⟨k, hk, rfl, hp⟩ := M.has_yes hh
    obtain ⟨bb, off, rfl, d0⟩ := (hx.keep HB.out).at' k hk
    have HK : Hid (∀ w', Below w.heap.size w w' → PkOut w l k (.returned (.tuple #[.string l[k], .bool true])) w') := by intro w' hb; unfold PkOut; rw [hp, hh]; exact ⟨rfl, hb⟩
    clear hx hp hh
    generalize l[k] = s at *
    go_enter Try.func13, Try.ntmps13
    go_wp2
    go_ret2
    exact HK.out _ HB.out
end Go.Proofs.Ytlknknacjpnmeaa
