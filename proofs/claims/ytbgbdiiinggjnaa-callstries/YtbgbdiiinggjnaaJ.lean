/-
  slices.Delete of one timer.
-/
import Derived.Test.YtbgbdiiinggjnaaI
namespace Go.Proofs.Ytbgbdiiinggjnaa
open Go.RowKit
set_option linter.unusedVariables false
open M (E)

theorem wpList_clear_runI {P : Program} (w : World) {ops : Array Oper} {rest : List Oper} {o : Oper} {a : Act} {Q : Exit → Act → World → Prop} (hgd : o.guard = none) (d : Operand) (t : TypeId)
    (ho : o.op = .call { callee := .builtin .clear, args := #[d], argTypes := #[t] }) (v : Value) (hd : a.eval d = v) {v' : Value} {w' : World}
    (hr : (Builtin.clear_ #[t] o.type #[v]).run P w = .ok v' w') (h : wpList P ops Q rest (a.put o.dst v') w') : wpList P ops Q (o :: rest) a w :=
  wpList_plain hgd fun _ hK => by
    unfold Oper.wp execOp
    simp only [ho, resolve, invoke, builtin, Sem.run_bind, Sem.run_pure, Result.andThen_ok, List.map_toArray, List.map_cons, List.map_nil, hd, hr]
    exact hK _ _ h
theorem zv42 (w : World) : (zeroValue 93).run Try.prog w = .ok (.agg #[.int .i64 0, .int .i64 0]) w := by simp
/-- The row g alone has changed. -/
structure InG (w w' : World) (g : Nat) : Prop where
  g : w.grownBy w' (some g)
theorem InG.refl (w : World) (g : Nat) : InG w w g := ⟨⟨rfl, rfl, rfl, Nat.le_refl _, fun _ _ _ => rfl⟩⟩
theorem InG.set {w w1 : World} {g : Nat} (h : InG w w1 g) (cs : Array Value) : InG w (w1.setRow g cs) g := by
  have g2 := grown_setRow w1 g cs
  exact ⟨⟨h.g.os, h.g.tape, h.g.output, Nat.le_trans h.g.size g2.size, fun k hk hn => (g2.block k (Nat.lt_of_lt_of_le hk h.g.size) hn).trans (h.g.block k hk hn)⟩⟩
theorem InG.drew {w w1 : World} {g : Nat} (h : InG w w1 g) : InG w w1.drew g := ⟨⟨h.g.os, h.g.tape, h.g.output, h.g.size, h.g.block⟩⟩
theorem InG.rw {w w1 : World} {g n c n' c' : Nat} (h : InG w w1 g) : Rw w (.slice (some ⟨g, 0, none⟩) n c) w1 (.slice (some ⟨g, 0, none⟩) n' c') := ⟨h.g, fun k hk => .inl hk⟩

set_option maxHeartbeats 4000000 in
set_option maxRecDepth 100000 in
theorem delete_row {w : World} {g cap base : Nat} {cur : List Value} {P : List E} (i : Nat) (hbg : base ≤ g) (hr : Row w g cap cur P) (hi : i < P.length) (hP : P.length ≤ 1000000) :
    Calls Try.prog 49 #[.slice (some ⟨g, 0, none⟩) P.length cap, .int .i64 i, .int .i64 ((i : Int) + 1)] w (InsOut w base (.slice (some ⟨g, 0, none⟩) P.length cap) (P.take i ++ P.drop (i + 1))) := by
  have hmx : cap ≤ 9223372036854775807 := by have := hr.mx; unfold maxLen at this; omega
  have hsz := hr.sz
  have hle := hr.le
  have hdl : (EC (P.drop (i + 1))).length = (P.length - (i + 1)) * 2 := by rw [EC_len, List.length_drop]
  have hpl := EC_tl P i (by omega)
  obtain ⟨t, ht'⟩ : ∃ t, i + (P.length - (i + 1)) = t := ⟨_, rfl⟩
  have htn : t = P.length - 1 := by omega
  have HAP : Hid (∀ sp sc, (0 < P.length - (i + 1) → sp = some ⟨g, (i + 1) * 2, none⟩) → ∀ ty, (Builtin.append_ #[88, 88] ty #[.slice (some ⟨g, 0, none⟩) i cap, .slice sp (P.length - (i + 1)) sc]).run Try.prog w.drew = .ok (.slice (some ⟨g, 0, none⟩) t cap) (w.drew.setRow g (splice cur (i * 2) (EC (P.drop (i + 1)))).toArray)) := by
    intro sp sc hsp ty
    rw [← ht']
    exact run_append_fit2 w.drew 88 ty 93 Try.underlying88 Try.size93 g i cap sp (P.length - (i + 1)) sc cur 93 (EC (P.drop (i + 1))) hr.h hdl (fun h => ⟨_, hsp h, hr.at (i + 1)⟩) (by rw [hdl, hsz]; omega) (by omega) (EC_one _)
  have hl1 : (splice cur (i * 2) (EC (P.drop (i + 1)))).length = cap * 2 := by rw [length_splice _ _ _ (by rw [hdl, hsz]; omega), hsz]
  have ht1 : (splice cur (i * 2) (EC (P.drop (i + 1)))).take (t * 2) = EC (P.take i ++ P.drop (i + 1)) := by
    have h1 := splice_at cur (EC (P.take i)) (EC (P.drop (i + 1))) (by rw [hpl]; exact hr.pre i (by omega))
    rw [hpl] at h1
    rw [h1, ← List.append_assoc, List.take_append_of_le_length (by simp only [List.length_append]; rw [hpl, hdl]; omega), List.take_of_length_le (by simp only [List.length_append]; rw [hpl, hdl]; omega), EC_app]
  obtain ⟨c1, hc1⟩ : ∃ c1, splice cur (i * 2) (EC (P.drop (i + 1))) = c1 := ⟨_, rfl⟩
  rw [hc1] at HAP hl1 ht1
  obtain ⟨W1, hW1⟩ : ∃ W1, w.drew.setRow g c1.toArray = W1 := ⟨_, rfl⟩
  rw [hW1] at HAP
  have hh1 : W1.heap[g]? = some (.cells c1.toArray 93 (0, 0)) := by rw [← hW1]; exact setRow_heap w.drew g _ _ _ _ hr.h
  have hG : InG w W1 g := by rw [← hW1]; exact (InG.refl w g).drew.set _
  obtain ⟨W3, hW3⟩ : ∃ W3, W1.setRow g (splice c1 (t * 2) (Builtin.zeroCells (Value.agg #[.int .i64 0, .int .i64 0]).cells (P.length - t)).toList).toArray = W3 := ⟨_, rfl⟩
  have hzl : (Builtin.zeroCells (Value.agg #[.int .i64 0, .int .i64 0]).cells (P.length - t)).toList.length = (P.length - t) * 2 := by simp [size_zeroCells, Value.cells]
  have hcl : ∀ ty c, (Builtin.clear_ #[88] ty #[.slice (some ⟨g, t * 2, none⟩) (P.length - t) c]).run Try.prog W1 = .ok (.tuple #[]) W3 := by
    intro ty c
    rw [← hW3]
    exact run_clear2 (P := Try.prog) W1 88 93 ty _ Try.underlying88 zv42 rfl (by simp [Value.cells]; rfl) g (t * 2) (P.length - t) c ⟨g, t * 2, none⟩ c1 93 hh1 (fun _ => rfl) (by rw [hl1]; omega)
  have HK : Hid (InsOut w base (.slice (some ⟨g, 0, none⟩) P.length cap) (P.take i ++ P.drop (i + 1)) (.returned (.slice (some ⟨g, 0, none⟩) t cap)) W3) := by
    have hl3 : (P.take i ++ P.drop (i + 1)).length = t := by simp; omega
    rw [← hW3]
    refine ⟨_, rfl, ?_, (hG.set _).rw⟩
    have key : Own (W1.setRow g (splice c1 (t * 2) (Builtin.zeroCells (Value.agg #[.int .i64 0, .int .i64 0]).cells (P.length - t)).toList).toArray) base (.slice (some ⟨g, 0, none⟩) (P.take i ++ P.drop (i + 1)).length cap) (P.take i ++ P.drop (i + 1)) :=
      Row.own ⟨setRow_heap W1 g _ _ _ _ hh1, by rw [hl3]; omega, hr.mx, by rw [length_splice _ _ _ (by rw [hzl, hl1]; omega), hl1], by rw [hl3, splice_take _ _ _ _ (Nat.le_refl _) (by rw [hl1]; omega)]; exact ht1⟩ hbg
    rw [hl3] at key
    exact key
  generalize (P.take i ++ P.drop (i + 1)) = RR at *
  generalize hn' : P.length = n at *
  have hz1 : ¬ ((i : Int) = (i : Int) + 1) := by omega
  have hb1 : (0 : Int) ≤ (i : Int) + 1 := by omega
  have hb2 : (i : Int) + 1 ≤ (n : Int) := by omega
  have hb3 : ((i : Int) + 1).toNat = i + 1 := by omega
  have hb4 : i ≤ n := by omega
  have hb5 : i + 1 ≤ n := by omega
  have hb6 : t ≤ n := by omega
  have hb7 : t ≤ cap := by omega
  have hb8 : (t : Int) ≤ (n : Int) := by omega
  have hb9 : ¬ (cap = t) := by omega
  have hb10 : ¬ (n = i) := by omega
  have hb11 : i ≤ cap := by omega
  clear hr hh1 hl1 hc1 hW1 hdl hsz hn' ht1 ht' hG hW3 hzl hpl
  by_cases hct : cap = i + 1
  · have hrun := HAP.out (some ⟨g, 0, none⟩) 0 (fun h => by omega)
    have hni : n = i + 1 := by omega
    subst hct
    subst hni
    have hti : t = i := by omega
    subst hti
    rw [Nat.sub_self] at hrun
    rw [show t + 1 - t = 1 by omega] at hcl
    have hb12 : (t : Int) ≤ (t : Int) + 1 := by omega
    clear htn HAP
    go_enter Try.func49, Try.ntmps49
    go_wp2_with fail
    go_region_law (refine step_append_run rfl _ _ 88 rfl _ _ (by simp [Act.eval, Act.put]) (by simp [Act.eval, Act.put]) _ _ (hrun _) ?_)
    all_goals
      go_wp2_with (at_builtin; refine wpList_clear_runI _ rfl _ 88 rfl _ rfl (hcl _ _) ?_)
      go_ret
      exact HK.out
  · have hrun := HAP.out (some ⟨g, (i + 1) * 2, none⟩) (cap - (i + 1)) (fun h => rfl)
    clear htn HAP
    go_enter Try.func49, Try.ntmps49
    go_wp2_with fail
    go_region_law (refine step_append_run rfl _ _ 88 rfl _ _ (by simp [Act.eval, Act.put]) (by simp [Act.eval, Act.put]) _ _ (hrun _) ?_)
    all_goals
      go_wp2_with (at_builtin; refine wpList_clear_runI _ rfl _ 88 rfl _ rfl (hcl _ _) ?_)
      go_ret
      exact HK.out
end Go.Proofs.Ytbgbdiiinggjnaa
