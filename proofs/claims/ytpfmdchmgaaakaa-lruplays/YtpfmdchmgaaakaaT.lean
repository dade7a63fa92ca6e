/-
  The document's cache: entries that are its own; a new one; one entry less.
-/
import Derived.Test.YtpfmdchmgaaakaaS
import Derived.Laws.ResultCell
import Derived.Deep.RegionLaw
namespace Go.Proofs.Ytpfmdchmgaaakaa
open Go.RowKit
set_option linter.unusedVariables false
open M (K)

/-- A row of entries of one's own. -/
def OwnE (w : World) (base : Nat) (v : Value) (l : List K) : Prop := w.ownsRow base 60 3 v l.length (EC l)
theorem hi60 : Try.prog.info? 60 = some Try.t60 := rfl
theorem hz60 : Try.t60.zero = some (.agg #[.int .i64 0, .string ⟨#[]⟩, .bool false]) := rfl
theorem hs60 : Try.t60.size = 3 := rfl
theorem hb60 : Try.t60.bytes = 32 := rfl
theorem Try.size29 : (Try.prog.info? 29).map (·.size) = some 2 := by kernel_rfl
theorem OwnE.nil (w : World) (base : Nat) : OwnE w base (.slice none 0 0) [] := World.ownsRow_nil _ _ _ _
theorem OwnE.keepBut {w w1 : World} {base : Nat} {v : Value} {l : List K} (h : OwnE w base v l) (hb : ∀ k, k < w.heap.size → v.ownBlock = some k → w1.heap[k]? = w.heap[k]?) : OwnE w1 base v l := by
  refine ⟨h.1, ?_⟩
  rcases h.2 with h' | ⟨g, cap, cur, hv, hg, hh, rest⟩
  · exact .inl h'
  · refine .inr ⟨g, cap, cur, hv, hg, ?_, rest⟩
    rw [hb g (Array.getElem?_eq_some_iff.1 hh).1 (by rw [hv]; rfl)]
    exact hh
theorem OwnE.keep {w w1 : World} {base : Nat} {v : Value} {l : List K} (h : OwnE w base v l) (hb : Below w.heap.size w w1) : OwnE w1 base v l := h.keepBut fun k hk _ => hb.block k hk
theorem OwnE.low {w : World} {base base' : Nat} {v : Value} {l : List K} (h : OwnE w base v l) (hb : base' ≤ base) : OwnE w base' v l := by
  refine ⟨h.1, ?_⟩
  rcases h.2 with h' | ⟨g, cap, cur, hv, hg, rest⟩
  · exact .inl h'
  · exact .inr ⟨g, cap, cur, hv, Nat.le_trans hb hg, rest⟩
theorem OwnE.lt {w : World} {base : Nat} {v : Value} {l : List K} (h : OwnE w base v l) {b : Nat} (hb : v.ownBlock = some b) : base ≤ b ∧ b < w.heap.size := World.ownsRow.lt h b hb
/-- The document's row: its entries lie somewhere. -/
structure XE (w : World) (a : Option Addr) (cap : Nat) (l : List K) : Prop where
  at' : AtE w a l
  le : l.length ≤ cap
  mx : cap ≤ maxLen
  nil : a = none → cap = 0
theorem XE.keepBut {w w' : World} {a : Option Addr} {cap : Nat} {l : List K} (h : XE w a cap l) (hb : ∀ k, k < w.heap.size → blk a k → w'.heap[k]? = w.heap[k]?) : XE w' a cap l := ⟨h.at'.keepBut hb, h.le, h.mx, h.nil⟩
theorem XE.keep {w w' : World} {a : Option Addr} {cap : Nat} {l : List K} (h : XE w a cap l) (hb : Below w.heap.size w w') : XE w' a cap l := ⟨h.at'.keep hb, h.le, h.mx, h.nil⟩
theorem XE.emp (w : World) : XE w none 0 [] := ⟨fun j h => by simp at h, by simp, by decide, fun _ => rfl⟩
theorem OwnE.at {w : World} {base : Nat} {v : Value} {l : List K} (h : OwnE w base v l) : ∃ a cap, v = .slice a l.length cap ∧ XE w a cap l ∧ (∀ k, blk a k → base ≤ k ∧ v.ownBlock = some k ∧ k < w.heap.size) := by
  rcases h.2 with ⟨rfl, h0⟩ | ⟨g, cap, cur, rfl, hb', hh, hc, hm, hs, ht⟩
  · have e : l = [] := List.length_eq_zero_iff.1 h0
    subst e
    exact ⟨_, 0, rfl, XE.emp w, (fun k hk => by obtain ⟨_, _, h⟩ := hk; cases h)⟩
  · refine ⟨some ⟨g, 0, none⟩, cap, rfl, ⟨fun j hj => ⟨g, 0, rfl, ?_⟩, hc, hm, fun h => by cases h⟩, (fun k hk => by obtain ⟨_, _, h⟩ := hk; simp at h; obtain ⟨rfl, _⟩ := h; exact ⟨hb', rfl, (Array.getElem?_eq_some_iff.1 hh).1⟩)⟩
    have hr := EC_get l j hj
    have key : ∀ (i : Nat) (u : Value), (EC l)[i]? = some u → w.cell? ⟨g, 0 + i, none⟩ = some u := fun i u hu => by
      have := World.ownsRow.cells h (g := g) rfl i u hu
      rwa [show ((⟨g, 0, none⟩ : Addr).add i) = ⟨g, 0 + i, none⟩ by unfold Addr.add; split <;> simp_all] at this
    exact ⟨key _ _ hr.1, key _ _ hr.2.1, key _ _ hr.2.2⟩
theorem AtE.take {w : World} {a : Option Addr} {l : List K} (h : AtE w a l) (q : Nat) : AtE w a (l.take q) := by
  intro j hj
  simp only [List.length_take] at hj
  rw [List.getElem_take]
  exact h j (by omega)
theorem AtE.drop {w : World} {b off : Nat} {l : List K} (h : AtE w (some ⟨b, off, none⟩) l) (q : Nat) : AtE w (some ⟨b, off + q * 3, none⟩) (l.drop q) := by
  intro j hj
  simp only [List.length_drop] at hj
  rw [List.getElem_drop]
  obtain ⟨b', off', e, h0, h1, h2⟩ := h (q + j) (by omega)
  cases e
  exact ⟨b, off + q * 3, rfl, by rw [show off + q * 3 + j * 3 = off + (q + j) * 3 by omega]; exact h0, by rw [show off + q * 3 + j * 3 + 1 = off + (q + j) * 3 + 1 by omega]; exact h1, by rw [show off + q * 3 + j * 3 + 2 = off + (q + j) * 3 + 2 by omega]; exact h2⟩
/-- Entries appended to a row of one's own. -/
theorem run_app (w : World) (ty : TypeId) (base : Nat) (v : Value) (l s : List K) (b off c n : Nat) (hown : OwnE w base v l) (hs : AtE w (some ⟨b, off, none⟩) s) (hn : n = s.length) (hb : base ≤ w.heap.size) (hl : l.length + s.length ≤ 3000000) :
    ∃ a' c' w', (Builtin.append_ #[27, 27] ty #[v, .slice (some ⟨b, off, none⟩) n c]).run Try.prog w = .ok (.slice a' (l.length + s.length) c') w' ∧ OwnE w' base (.slice a' (l.length + s.length) c') (l ++ s) ∧ Rw w v w' (.slice a' (l.length + s.length) c') := by
  subst hn
  obtain ⟨v', w', hr, h2, h3, _, h5⟩ := run_append_own_at (P := Try.prog) w base 27 ty 60 Try.t60 _ 3 32 Try.underlying27 hi60 hz60 hs60 hb60 rfl (by decide) v l.length (EC l) hown ⟨b, off, none⟩ s.length c (EC s) (EC_len s) (atE_cells hs) (EC_one s) (by unfold maxLen; omega) (by omega) hb
  have ho : OwnE w' base v' (l ++ s) := by
    unfold OwnE
    rw [EC_app, List.length_append]
    exact h2
  obtain ⟨a', c', rfl, _, _⟩ := ho.at
  rw [List.length_append] at hr ho h5 h2
  refine ⟨a', c', w', hr, ho, h3, fun k hk => ?_⟩
  rcases h5 with h5 | h5
  · exact .inl (by rw [← h5]; exact hk)
  · rw [h5] at hk
    cases hk
    exact .inr (Nat.le_refl _)
theorem run_append_nil0 (w : World) (ty : TypeId) (a : Option Addr) (c : Nat) : (Builtin.append_ #[27, 27] ty #[.slice none 0 0, .slice a 0 c]).run Try.prog w = .ok (.slice none 0 0) w := by
  cases a with
  | none => simp [Builtin.append_, run_underlying Try.underlying27, sizeOf, typeInfo, hi60, Builtin.lenOf, Builtin.firstCells]
  | some ad =>
    have hl := run_loadCells_list (P := Try.prog) w ad [] (by simp)
    simp at hl
    simp [Builtin.append_, run_underlying Try.underlying27, sizeOf, typeInfo, hi60, Builtin.lenOf, Builtin.firstCells, hl]
/-- A whole row, copied into new memory. -/
theorem run_copy (w : World) (ty : TypeId) (a : Option Addr) (c : Nat) (s : List K) (hs : XE w a c s) (hl : s.length ≤ 1000000) :
    ∃ a' c' w', (Builtin.append_ #[27, 27] ty #[.slice none 0 0, .slice a s.length c]).run Try.prog w = .ok (.slice a' s.length c') w' ∧ OwnE w' w.heap.size (.slice a' s.length c') s ∧ Below w.heap.size w w' := by
  cases s with
  | nil => exact ⟨none, 0, w, run_append_nil0 w ty a c, OwnE.nil _ _, Below.refl _ _⟩
  | cons e r =>
    obtain ⟨b, off, rfl, _⟩ := hs.at' 0 (by simp)
    obtain ⟨a', c', w', h1, h2, h3⟩ := run_app w ty w.heap.size (.slice none 0 0) [] (e :: r) b off c _ (OwnE.nil _ _) hs.at' rfl (Nat.le_refl _) (by simp at hl ⊢; omega)
    simp only [List.length_nil, Nat.zero_add, List.nil_append] at h1 h2 h3
    exact ⟨a', c', w', h1, h2, h3.below (fun k hk => by simp [Value.ownBlock] at hk) (Nat.le_refl _)⟩
/-- A new cache of the document's, of a number and a row that is new. -/
def WoR (w : World) (mo : Int) (l : List K) (x : Ending) (w' : World) : Prop := ∃ v', x = .returned (.agg #[.int .i64 mo, v']) ∧ OwnE w' w.heap.size v' l ∧ Below w.heap.size w w'
theorem f10_res : Try.f10.results = #[.cell 2 29] := rfl
theorem f27_res : Try.f27.results = #[.cell 4 29] := rfl
set_option maxRecDepth 100000 in
set_option maxHeartbeats 1000000 in
theorem rnew_any (most : Int) (w : World) : Calls Try.prog 10 #[.int .i64 most] w (WoR w (lim most) []) := by
  obtain ⟨mx, hmx⟩ : ∃ x, max most 0 = x := ⟨_, rfl⟩
  obtain ⟨mn, hmn⟩ : ∃ x, min mx 65536 = x := ⟨_, rfl⟩
  have hlim : lim most = mn := by unfold lim; rw [hmx, hmn]
  rw [hlim]
  have HR := Hid_of (heap_alloc_last w (.cells #[.int .i64 mn, .slice none 0 0] 29))
  have HK : Hid (WoR w mn [] (.returned (.agg #[.int .i64 mn, .slice none 0 0])) (w.alloc (.cells #[.int .i64 mn, .slice none 0 0] 29))) := ⟨_, rfl, OwnE.nil _ _, bel1 w _⟩
  clear hlim
  go_enter Try.func10, Try.ntmps10
  go_wp2
  refine bodyPost_ret (v := .agg #[.int .i64 mn, .slice none 0 0]) ?_ rfl HK.out
  exact results_cell_row f10_res _ _ w.heap.size 29 _ (0, 0) _ rfl HR.out Try.underlying29 rfl Try.size29
/-- An append whose run is known, at a step of a region that draws its order. -/
theorem step_append_run {P : Program} {w : World} {ops : Array Oper} {o : Oper} {a : Act} {C : Act → World → Prop} {Q : Exit → Act → World → Prop} {E : Prop} (hgd : o.guard = none) (s x : Operand) (t : TypeId)
    (ho : o.op = .call { callee := .builtin .append, args := #[s, x], argTypes := #[t, t] }) (v sv : Value) (hs : a.eval s = v) (hx : a.eval x = sv) (v' : Value) (w' : World)
    (hr : (Builtin.append_ #[t, t] o.type #[v, sv]).run P w = .ok v' w') (h : C (a.put o.dst v') w') : if Region.wanted o (yielded ops a.tmps) = true then Oper.wp P o a w C Q else E := by
  have hw : Region.wanted o (yielded ops a.tmps) = true := by simp [Region.wanted, hgd]
  rw [if_pos hw]
  unfold Oper.wp execOp
  simp only [ho, resolve, invoke, builtin, Sem.run_bind, Sem.run_pure, Result.andThen_ok, List.map_toArray, List.map_cons, List.map_nil, hs, hx, hr]
  exact h
set_option maxRecDepth 100000 in
set_option maxHeartbeats 2000000 in
theorem rwithout_any (mo : Int) (a : Option Addr) (cap : Nat) (l : List K) (i : Nat) (w : World) (hl : l.length ≤ 1000000) (hi : i < l.length) (hx : XE w a cap l) :
    Calls Try.prog 27 #[.agg #[.int .i64 mo, .slice a l.length cap], .int .i64 i] w (WoR w mo (l.eraseIdx i)) := by
  obtain ⟨W1, HW1⟩ : ∃ W1, Hid ((w.alloc (.cells #[.int .i64 mo, .slice a l.length cap] 29)).alloc (.cells #[.int .i64 0, .slice none 0 0] 29) = W1) := ⟨_, rfl⟩
  have HB1 : Hid (Below w.heap.size w W1) := by rw [← HW1.out]; exact (bel1 w _).alloc (by simp) _
  have hs1 : W1.heap.size = w.heap.size + 2 := by rw [← HW1.out]; simp
  have hr0 : W1.heap[w.heap.size]? = some (.cells #[.int .i64 mo, .slice a l.length cap] 29 (0, 0)) := by rw [← HW1.out]; exact heap_alloc2_old w _ _
  have hr1 : W1.heap[w.heap.size + 1]? = some (.cells #[.int .i64 0, .slice none 0 0] 29 (0, 0)) := by rw [← HW1.out]; exact heap_alloc2_new w _ _
  have hX1 := hx.keep HB1.out
  obtain ⟨b, off, rfl, _⟩ := hx.at' 0 (by omega)
  have hle := hx.le
  have hmx : cap ≤ 9223372036854775807 := by have := hx.mx; unfold maxLen at this; omega
  obtain ⟨a1, cp1, w1, hrun1, o1, rw1⟩ := run_app W1.drew 27 W1.heap.size (.slice none 0 0) [] (l.take i) b off cap i (OwnE.nil _ _) (hX1.at'.take i) (by simp; omega) (Nat.le_refl _) (by simp; omega)
  have B0 := rw1.below (B := W1.drew.heap.size) (fun k hk => by simp [Value.ownBlock] at hk) (Nat.le_refl _)
  have B1 : Below W1.heap.size W1 w1 := ⟨B0.os, B0.tape, B0.output, B0.size, B0.block⟩
  clear B0
  have hX2 := hX1.keep B1
  have hli : (l.take i).length = i := by simp; omega
  rw [List.nil_append] at o1
  simp only [List.length_nil, Nat.zero_add, hli] at hrun1 o1
  have HE : Hid (l.take i ++ l.drop (i + 1) = l.eraseIdx i) := (List.eraseIdx_eq_take_drop_succ l i).symm
  -- the second append, wherever its source lies
  have H2 : Hid (∃ a2 cp2 w2, ((cap = i + 1 → (Builtin.append_ #[27, 27] 27 #[.slice a1 i cp1, .slice (some ⟨b, off, none⟩) 0 0]).run Try.prog w1 = .ok (.slice a2 (l.length - 1) cp2) w2) ∧ (¬ cap = i + 1 → (Builtin.append_ #[27, 27] 27 #[.slice a1 i cp1, .slice (some ⟨b, off + (i + 1) * 3, none⟩) (l.length - (i + 1)) (cap - (i + 1))]).run Try.prog w1 = .ok (.slice a2 (l.length - 1) cp2) w2)) ∧ OwnE w2 W1.heap.size (.slice a2 (l.length - 1) cp2) (l.eraseIdx i) ∧ Below W1.heap.size w1 w2) := by
    by_cases hc : cap = i + 1
    · have hd : l.drop (i + 1) = [] := List.drop_of_length_le (by omega)
      obtain ⟨a2, cp2, w2, hrun2, o2, rw2⟩ := run_app w1 27 W1.heap.size _ _ [] b off 0 0 o1 (fun j h => by simp at h) rfl B1.size (by simp; omega)
      rw [← HE.out, hd]
      rw [hli] at hrun2 o2 rw2
      have e1 : i + ([] : List K).length = l.length - 1 := by simp; omega
      rw [e1] at hrun2 o2 rw2
      exact ⟨a2, cp2, w2, ⟨fun _ => hrun2, fun h => absurd hc h⟩, o2, rw2.below (fun k hk => (o1.lt hk).1) B1.size⟩
    · obtain ⟨a2, cp2, w2, hrun2, o2, rw2⟩ := run_app w1 27 W1.heap.size _ _ (l.drop (i + 1)) b (off + (i + 1) * 3) (cap - (i + 1)) (l.length - (i + 1)) o1 (hX2.at'.drop (i + 1)) (by simp) B1.size (by simp; omega)
      rw [← HE.out]
      rw [hli] at hrun2 o2 rw2
      have e1 : i + (l.drop (i + 1)).length = l.length - 1 := by simp; omega
      rw [e1] at hrun2 o2 rw2
      exact ⟨a2, cp2, w2, ⟨fun h => absurd h hc, fun _ => hrun2⟩, o2, rw2.below (fun k hk => (o1.lt hk).1) B1.size⟩
  obtain ⟨a2, cp2, w2, hr2, o2, B2⟩ := H2.out
  have B12 := B1.trans B2
  have hr02 := (B12.block w.heap.size (by omega)).trans hr0
  have hr12 := (B12.block (w.heap.size + 1) (by omega)).trans hr1
  have hr01 := (B1.block w.heap.size (by omega)).trans hr0
  obtain ⟨W3, HW3⟩ : ∃ W3, Hid (w2.setCell ⟨w.heap.size, 1, none⟩ (.slice a2 (l.length - 1) cp2) = W3) := ⟨_, rfl⟩
  have hr03 : W3.heap[w.heap.size]? = some (.cells #[.int .i64 mo, .slice a2 (l.length - 1) cp2] 29 (0, 0)) := by rw [← HW3.out]; exact heap_setCell_same w2 _ 1 _ _ _ hr02
  have hr13 : W3.heap[w.heap.size + 1]? = some (.cells #[.int .i64 0, .slice none 0 0] 29 (0, 0)) := by rw [← HW3.out]; exact (heap_setCell_other w2 ⟨w.heap.size, 1, none⟩ _ _ (by simp)).trans hr12
  have hne : ∀ k, (Value.slice a2 (l.length - 1) cp2).ownBlock = some k → w.heap.size + 2 ≤ k := fun k hk => by have := (o2.lt hk).1; omega
  have o3 : OwnE W3 W1.heap.size (.slice a2 (l.length - 1) cp2) (l.eraseIdx i) := by
    rw [← HW3.out]
    exact o2.keepBut fun k hk hv => heap_setCell_other w2 ⟨w.heap.size, 1, none⟩ k _ (by have := hne k hv; show k ≠ w.heap.size; omega)
  have HFIN : Hid (∀ W, W = (W3.setCell ⟨w.heap.size + 1, 0, none⟩ (.int .i64 mo)).setCell ⟨w.heap.size + 1, 1, none⟩ (.slice a2 (l.length - 1) cp2) ∨ W = ((W3.setCell ⟨w.heap.size + 1, 0, none⟩ (.int .i64 mo)).setCell ⟨w.heap.size + 1, 1, none⟩ (.slice a2 (l.length - 1) cp2)).drew → W.heap[w.heap.size + 1]? = some (.cells #[.int .i64 mo, .slice a2 (l.length - 1) cp2] 29 (0, 0)) ∧ WoR w mo (l.eraseIdx i) (.returned (.agg #[.int .i64 mo, .slice a2 (l.length - 1) cp2])) W) := by
    have key : ∀ W, W = (W3.setCell ⟨w.heap.size + 1, 0, none⟩ (.int .i64 mo)).setCell ⟨w.heap.size + 1, 1, none⟩ (.slice a2 (l.length - 1) cp2) → W.heap[w.heap.size + 1]? = some (.cells #[.int .i64 mo, .slice a2 (l.length - 1) cp2] 29 (0, 0)) ∧ WoR w mo (l.eraseIdx i) (.returned (.agg #[.int .i64 mo, .slice a2 (l.length - 1) cp2])) W := by
      rintro W rfl
      refine ⟨heap_setCell_same _ _ 1 _ _ _ (heap_setCell_same W3 _ 0 _ _ _ hr13), _, rfl, OwnE.low (o3.keepBut fun k hk hv => ?_) (show w.heap.size ≤ W1.heap.size by omega), ?_⟩
      · have := hne k hv
        exact (heap_setCell_other _ ⟨w.heap.size + 1, 1, none⟩ k _ (by show k ≠ w.heap.size + 1; omega)).trans (heap_setCell_other _ ⟨w.heap.size + 1, 0, none⟩ k _ (by show k ≠ w.heap.size + 1; omega))
      · refine ((?_ : Below w.heap.size w W3).setCell (by simp) _).setCell (by simp) _
        rw [← HW3.out]
        exact (bel_up HB1.out B12 (Nat.le_refl _)).setCell (Nat.le_refl _) _
    rintro W (h | h)
    · exact key W h
    · obtain ⟨h1, v', h2, h3, h4⟩ := key _ rfl
      subst h
      exact ⟨h1, v', h2, h3, ⟨h4.os, h4.tape, h4.output, h4.size, h4.block⟩⟩
  obtain ⟨⟨c0, c1⟩, cf⟩ := row2 hr0
  obtain ⟨⟨d0, d1⟩, df⟩ := row2 hr01
  obtain ⟨⟨e0, e1⟩, ef⟩ := row2 hr02
  obtain ⟨⟨g0, g1⟩, gf⟩ := row2 hr03
  obtain ⟨⟨p0, p1⟩, pf⟩ := row2 hr13
  have ef1 := ef 1
  have pf0 := pf 0
  have pf1 := pf 1
  have hic : i ≤ cap := by omega
  have hw : IntKind.i64.wrap ((i : Int) + 1) = (i : Int) + 1 := by rw [IntKind.wrap_i64]; omega
  have hil : i + 1 ≤ l.length := by omega
  have hilc : i + 1 ≤ cap := by omega
  have h0i : 0 ≤ (i : Int) + 1 := by omega
  have hil' : (i : Int) + 1 ≤ (l.length : Int) := by omega
  have HRU2 := Hid_of hr2
  clear hX1 hX2 hr0 hr1 hr01 hr02 hr12 hr03 hr13 B1 B2 B12 o1 o2 o3 rw1 hx H2 HE hne HB1 hr2 cf df ef gf pf
  generalize l.length - 1 = nl at *
  generalize l.eraseIdx i = le at *
  by_cases hc : cap = i + 1
  · have hrun2 := HRU2.out.1 hc
    subst hc
    have hic' : (i : Int) ≤ (i : Int) + 1 := by omega
    have hic2 : i ≤ i + 1 := by omega
    go_enter Try.func27, Try.ntmps27
    go_wp2_with fail
    rw [HW1.out]
    clear HW1 HRU2
    go_region_law (first
      | (refine step_append_run rfl (.const (.slice none 0 0)) (.tmp 8) 27 rfl _ _ (by simp [Act.eval]) (by simp [Act.eval, Act.put]) _ _ hrun1 ?_)
      | (refine step_append_run rfl (.tmp 9) (.tmp 14) 27 rfl _ _ (by simp [Act.eval, Act.put]) (by simp [Act.eval, Act.put]) _ _ hrun2 ?_))
    all_goals
      rw [HW3.out]
      clear hrun1 hrun2 c0 c1 d0 d1 e0 e1 ef1
      go_wp2
      obtain ⟨hres, hq⟩ := HFIN.out _ (.inl rfl)
      refine bodyPost_ret (v := .agg #[.int .i64 mo, .slice a2 nl cp2]) ?_ rfl hq
      exact results_cell_row f27_res _ _ (w.heap.size + 1) 29 _ (0, 0) _ rfl hres Try.underlying29 rfl Try.size29
  · have hrun2 := HRU2.out.2 hc
    go_enter Try.func27, Try.ntmps27
    go_wp2_with fail
    rw [HW1.out]
    clear HW1 HRU2
    go_region_law (first
      | (refine step_append_run rfl (.const (.slice none 0 0)) (.tmp 8) 27 rfl _ _ (by simp [Act.eval]) (by simp [Act.eval, Act.put]) _ _ hrun1 ?_)
      | (refine step_append_run rfl (.tmp 9) (.tmp 14) 27 rfl _ _ (by simp [Act.eval, Act.put]) (by simp [Act.eval, Act.put]) _ _ hrun2 ?_))
    all_goals
      rw [HW3.out]
      clear hrun1 hrun2 c0 c1 d0 d1 e0 e1 ef1
      go_wp2
      obtain ⟨hres, hq⟩ := HFIN.out _ (.inl rfl)
      refine bodyPost_ret (v := .agg #[.int .i64 mo, .slice a2 nl cp2]) ?_ rfl hq
      exact results_cell_row f27_res _ _ (w.heap.size + 1) 29 _ (0, 0) _ rfl hres Try.underlying29 rfl Try.size29
end Go.Proofs.Ytpfmdchmgaaakaa
