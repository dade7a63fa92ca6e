/-
  slices.Replace at pieces.
-/
import Derived.Test.YtajgjkkggppbiaaI
namespace Go.Proofs.Ytajgjkkggppbiaa
open Go.RowKit
set_option linter.unusedVariables false
open M (E)

theorem wpList_clear_runI {P : Program} (w : World) {ops : Array Oper} {rest : List Oper} {o : Oper} {a : Act} {Q : Exit → Act → World → Prop} (hgd : o.guard = none) (d : Operand) (t : TypeId)
    (ho : o.op = .call { callee := .builtin .clear, args := #[d], argTypes := #[t] }) (v : Value) (hd : a.eval d = v) {v' : Value} {w' : World}
    (hr : (Builtin.clear_ #[t] o.type #[v]).run P w = .ok v' w') (h : wpList P ops Q rest (a.put o.dst v') w') : wpList P ops Q (o :: rest) a w :=
  wpList_plain hgd fun _ hK => by
    unfold Oper.wp execOp
    simp only [ho, resolve, invoke, builtin, Sem.run_bind, Sem.run_pure, Result.andThen_ok, List.map_toArray, List.map_cons, List.map_nil, hd, hr]
    exact hK _ _ h
theorem splice_ge {α : Type} (L B : List α) (o k : Nat) (h : o + B.length ≤ k) (hl : o ≤ L.length) : (splice L o B)[k]? = L[k]? := by
  unfold splice
  rw [List.getElem?_append_right (by simp; omega), List.getElem?_append_right (by simp; omega), List.getElem?_drop]
  congr 1
  simp
  omega
theorem Row.at_of {w w' : World} {g cap : Nat} {cur c1 : List Value} {P : List E} (h : Row w g cap cur P) (j : Nat) (h1 : w'.heap[g]? = some (.cells c1.toArray 32 (0, 0))) (hc : ∀ k, j * 4 ≤ k → c1[k]? = cur[k]?) : ∀ k v, (EC (P.drop j))[k]? = some v → w'.cell? ((⟨g, j * 4, none⟩ : Addr).add k) = some v := by
  intro k v hk
  have := h.at j k v hk
  rw [show ((⟨g, j * 4, none⟩ : Addr).add k) = ⟨g, j * 4 + k, none⟩ by unfold Addr.add; split <;> simp_all] at this ⊢
  rw [cell_of_row w g _ _ _ _ h.h] at this
  rw [cell_of_row w' g _ _ _ _ h1]
  simp only [List.getElem?_toArray] at this ⊢
  rw [hc _ (by omega)]
  exact this
theorem zv32 (w : World) : (zeroValue 32).run Try.prog w = .ok (.agg #[.int .i64 0, .int .i64 0, .int .i64 0, .int .i64 0]) w := by simp

set_option maxHeartbeats 400000 in
set_option maxRecDepth 100000 in
theorem replace_ins0 {w : World} {base : Nat} {u : Value} (l : List E) (hc : Calls Try.prog 39 #[.slice none 0 0, .int .i64 0, u] w (InsOut w base (.slice none 0 0) l)) :
    Calls Try.prog 37 #[.slice none 0 0, .int .i64 0, .int .i64 0, u] w (InsOut w base (.slice none 0 0) l) := by
  go_enter Try.func37, Try.ntmps37
  go_wp2_with fail
  refine hc.mono ?_
  rintro e w1 h
  obtain ⟨v', rfl, o1, r1⟩ := h
  have HK : Hid (InsOut w base (.slice none 0 0) l (.returned v') w1) := ⟨_, rfl, o1, r1⟩
  clear o1 r1 hc
  go_wp2
  go_ret
  exact HK.out
set_option maxHeartbeats 400000 in
set_option maxRecDepth 100000 in
theorem replace_ins1 {w : World} {base : Nat} {u : Value} (g n cap i : Nat) (l : List E) (hi : i ≤ n) (hn : n ≤ cap) (hmx : cap ≤ 9223372036854775807) (hc : Calls Try.prog 39 #[.slice (some ⟨g, 0, none⟩) n cap, .int .i64 i, u] w (InsOut w base (.slice (some ⟨g, 0, none⟩) n cap) l)) :
    Calls Try.prog 37 #[.slice (some ⟨g, 0, none⟩) n cap, .int .i64 i, .int .i64 i, u] w (InsOut w base (.slice (some ⟨g, 0, none⟩) n cap) l) := by
  by_cases hci : cap = i
  · subst hci
    go_enter Try.func37, Try.ntmps37
    go_wp2_with fail
    refine hc.mono ?_
    rintro e w1 h
    obtain ⟨v', rfl, o1, r1⟩ := h
    have HK : Hid (InsOut w base (.slice (some ⟨g, 0, none⟩) n cap) l (.returned v') w1) := ⟨_, rfl, o1, r1⟩
    clear o1 r1 hc
    go_wp2
    go_ret
    exact HK.out
  · go_enter Try.func37, Try.ntmps37
    go_wp2_with fail
    refine hc.mono ?_
    rintro e w1 h
    obtain ⟨v', rfl, o1, r1⟩ := h
    have HK : Hid (InsOut w base (.slice (some ⟨g, 0, none⟩) n cap) l (.returned v') w1) := ⟨_, rfl, o1, r1⟩
    clear o1 r1 hc
    go_wp2
    go_ret
    exact HK.out
theorem replace_ins {w : World} {base : Nat} {v u : Value} {P Q : List E} (i : Nat) (hb : base ≤ w.heap.size) (ho : Own w base v P) (ha : Arg w v u Q) (hi : i ≤ P.length) (hP : P.length ≤ 1000000) (hQ : Q.length ≤ 1000000) :
    Calls Try.prog 37 #[v, .int .i64 i, .int .i64 i, u] w (InsOut w base v (P.take i ++ Q ++ P.drop i)) := by
  have hc := insert_any i hb ho ha hi hP hQ
  rcases ho.row with ⟨rfl, rfl⟩ | ⟨g, cap, cur, rfl, hbg, hr⟩
  · obtain rfl : i = 0 := by simpa using hi
    exact replace_ins0 _ hc
  · exact replace_ins1 g _ cap i _ hi hr.le (by have := hr.mx; unfold maxLen at this; omega) hc

/-- Two laid into a row, one behind the other. -/
theorem own_bc {w : World} {g cap base : Nat} {cur c3 : List Value} {P Q : List E} {W : World} (i j : Nat) (hr : Row w g cap cur P) (hbg : base ≤ g) (hij : i ≤ j) (hj : j ≤ P.length) (hfit : i + Q.length + (P.length - j) ≤ cap)
    (h3 : W.heap[g]? = some (.cells c3.toArray 32 (0, 0))) (hl : c3.length = cap * 4) (ht : c3.take ((i + Q.length + (P.length - j)) * 4) = EC (P.take i) ++ EC Q ++ EC (P.drop j)) :
    Own W base (.slice (some ⟨g, 0, none⟩) (i + Q.length + (P.length - j)) cap) (P.take i ++ Q ++ P.drop j) := by
  have hl3 : (P.take i ++ Q ++ P.drop j).length = i + Q.length + (P.length - j) := by simp; omega
  rw [← hl3]
  exact Row.own (cur := c3) ⟨h3, by rw [hl3]; exact hfit, hr.mx, hl, by rw [hl3, EC_app, EC_app]; exact ht⟩ hbg
theorem bc_take {w : World} {g cap : Nat} {cur : List Value} {P Q : List E} (i j : Nat) (hr : Row w g cap cur P) (hij : i ≤ j) (hj : j ≤ P.length) :
    (splice (splice cur (i * 4) (EC Q)) ((i + Q.length) * 4) (EC (P.drop j))).take ((i + Q.length + (P.length - j)) * 4) = EC (P.take i) ++ EC Q ++ EC (P.drop j) := by
  have hpl := EC_tl P i (by omega)
  have hdl : (EC (P.drop j)).length = (P.length - j) * 4 := by rw [EC_len, List.length_drop]
  have := splice_bc cur (EC (P.take i)) (EC Q) (EC (P.drop j)) (by rw [hpl]; exact hr.pre i (by omega))
  rw [hpl, EC_len Q, hdl, show i * 4 + Q.length * 4 = (i + Q.length) * 4 by omega, show (i + Q.length) * 4 + (P.length - j) * 4 = (i + Q.length + (P.length - j)) * 4 by omega] at this
  exact this
theorem cb_take {w : World} {g cap : Nat} {cur : List Value} {P Q : List E} (i j : Nat) (hr : Row w g cap cur P) (hij : i ≤ j) (hj : j ≤ P.length) (hfit : i + Q.length + (P.length - j) ≤ cap) :
    (splice (splice cur ((i + Q.length) * 4) (EC (P.drop j))) (i * 4) (EC Q)).take ((i + Q.length + (P.length - j)) * 4) = EC (P.take i) ++ EC Q ++ EC (P.drop j) := by
  have hpl := EC_tl P i (by omega)
  have hdl : (EC (P.drop j)).length = (P.length - j) * 4 := by rw [EC_len, List.length_drop]
  have := splice_cb cur (EC (P.take i)) (EC Q) (EC (P.drop j)) (by rw [hpl]; exact hr.pre i (by omega)) (by rw [hpl, EC_len Q, hdl, hr.sz]; omega)
  rw [hpl, EC_len Q, hdl, show i * 4 + Q.length * 4 = (i + Q.length) * 4 by omega, show (i + Q.length) * 4 + (P.length - j) * 4 = (i + Q.length + (P.length - j)) * 4 by omega] at this
  exact this
/-- The row g alone has changed. -/
structure InG (w w' : World) (g : Nat) : Prop where
  g : w.grownBy w' (some g)
theorem InG.refl (w : World) (g : Nat) : InG w w g := ⟨⟨rfl, rfl, rfl, Nat.le_refl _, fun _ _ _ => rfl⟩⟩
theorem InG.set {w w1 : World} {g : Nat} (h : InG w w1 g) (cs : Array Value) : InG w (w1.setRow g cs) g := by
  have g2 := grown_setRow w1 g cs
  exact ⟨⟨h.g.os, h.g.tape, h.g.output, Nat.le_trans h.g.size g2.size, fun k hk hn => (g2.block k (Nat.lt_of_lt_of_le hk h.g.size) hn).trans (h.g.block k hk hn)⟩⟩
theorem InG.drew {w w1 : World} {g : Nat} (h : InG w w1 g) : InG w w1.drew g := ⟨⟨h.g.os, h.g.tape, h.g.output, h.g.size, h.g.block⟩⟩
theorem InG.rw {w w1 : World} {g n c n' c' : Nat} (h : InG w w1 g) : Rw w (.slice (some ⟨g, 0, none⟩) n c) w1 (.slice (some ⟨g, 0, none⟩) n' c') := ⟨h.g, fun k hk => .inl hk⟩

set_option maxHeartbeats 4000000 in
set_option maxRecDepth 100000 in
theorem replace_expand {w : World} {g cap base gq capq : Nat} {cur curq : List Value} {P Q : List E} (i j : Nat) (hbg : base ≤ g) (hr : Row w g cap cur P) (hq : Row w gq capq curq Q) (hne : gq ≠ g) (hij : i < j) (hj : j < P.length) (hx : j < i + Q.length) (hroom : i + Q.length + (P.length - j) ≤ cap) (hP : P.length ≤ 1000000) (hQ : Q.length ≤ 1000000) :
    Calls Try.prog 37 #[.slice (some ⟨g, 0, none⟩) P.length cap, .int .i64 i, .int .i64 j, .slice (some ⟨gq, 0, none⟩) Q.length capq] w (InsOut w base (.slice (some ⟨g, 0, none⟩) P.length cap) (P.take i ++ Q ++ P.drop j)) := by
  have hmx : cap ≤ 9223372036854775807 := by have := hr.mx; unfold maxLen at this; omega
  have hsz := hr.sz
  have hle := hr.le
  have hcq : 0 < capq := by have := hq.le; omega
  have hov := fun la ca => overlaps_no (w := w.drew) (hr.of rfl) (hq.of rfl) hne.symm hcq ((i + Q.length) * 4) 0 la ca Q.length capq
  have hdl : (EC (P.drop j)).length = (P.length - j) * 4 := by rw [EC_len, List.length_drop]
  have hcp1 : ∀ ty dc sc, (Builtin.copy_ #[40, 40] ty #[.slice (some ⟨g, (i + Q.length) * 4, none⟩) (i + Q.length + (P.length - j) - (i + Q.length)) dc, .slice (some ⟨g, j * 4, none⟩) (P.length - j) sc]).run Try.prog w.drew.drew = .ok (goInt (P.length - j : Nat)) (w.drew.drew.setRow g (splice cur ((i + Q.length) * 4) (EC (P.drop j))).toArray) := fun ty dc sc =>
    run_copy4 w.drew.drew 40 40 ty 32 g ((i + Q.length) * 4) _ dc _ _ sc cur 32 (EC (P.drop j)) (P.length - j) Try.underlying40 Try.sz40 hr.h (by simp only [Nat.min_def]; split <;> omega) hdl (fun _ => ⟨_, rfl, hr.at j⟩) (by rw [hdl, hsz]; omega) (EC_one _)
  have hl1 : (splice cur ((i + Q.length) * 4) (EC (P.drop j))).length = cap * 4 := by rw [length_splice _ _ _ (by rw [hdl, hsz]; omega), hsz]
  have ht := cb_take (Q := Q) i j hr (by omega) (by omega) hroom
  obtain ⟨c1, hc1⟩ : ∃ c1, splice cur ((i + Q.length) * 4) (EC (P.drop j)) = c1 := ⟨_, rfl⟩
  rw [hc1] at hcp1 hl1 ht
  obtain ⟨W1, hW1⟩ : ∃ W1, w.drew.drew.setRow g c1.toArray = W1 := ⟨_, rfl⟩
  have hh1 : W1.heap[g]? = some (.cells c1.toArray 32 (0, 0)) := by rw [← hW1]; exact setRow_heap w.drew.drew g _ _ _ _ hr.h
  have hq1 : Row W1 gq capq curq Q := hq.of (by rw [← hW1]; exact setRow_other w.drew.drew g gq _ hne)
  have hcp2 : ∀ ty dc, (Builtin.copy_ #[40, 40] ty #[.slice (some ⟨g, i * 4, none⟩) (i + Q.length + (P.length - j) - i) dc, .slice (some ⟨gq, 0, none⟩) Q.length capq]).run Try.prog W1 = .ok (goInt Q.length) (W1.setRow g (splice c1 (i * 4) (EC Q)).toArray) := fun ty dc =>
    run_copy4 W1 40 40 ty 32 g (i * 4) _ dc _ _ capq c1 32 (EC Q) Q.length Try.underlying40 Try.sz40 hh1 (by simp only [Nat.min_def]; split <;> omega) (EC_len Q) (fun _ => ⟨_, rfl, hq1.at0⟩) (by rw [EC_len, hl1]; omega) (EC_one _)
  rw [hW1] at hcp1
  have hG : InG w W1 g := by rw [← hW1]; exact ((InG.refl w g).drew.drew).set _
  have HK : Hid (InsOut w base (.slice (some ⟨g, 0, none⟩) P.length cap) (P.take i ++ Q ++ P.drop j) (.returned (.slice (some ⟨g, 0, none⟩) (i + Q.length + (P.length - j)) cap)) (W1.setRow g (splice c1 (i * 4) (EC Q)).toArray)) :=
    ⟨_, rfl, own_bc i j hr hbg (by omega) (by omega) hroom (setRow_heap W1 g _ _ _ _ hh1) (by rw [length_splice _ _ _ (by rw [EC_len, hl1]; omega), hl1]) ht, (hG.set _).rw⟩
  generalize (splice c1 (i * 4) (EC Q)).toArray = c2 at *
  generalize (P.take i ++ Q ++ P.drop j) = RR at *
  generalize hn' : P.length = n at *
  generalize hm' : Q.length = m at *
  obtain ⟨t, ht'⟩ : ∃ t, i + m + (n - j) = t := ⟨_, rfl⟩
  rw [ht'] at hcp1 hcp2 HK hroom
  have htt : (i : Int) + (m : Int) + ((n : Int) - (j : Int)) = (t : Int) := by omega
  have htt2 : (i : Int) + (m : Int) + ((n - j : Nat) : Int) = (t : Int) := by omega
  have hz1 : ((i : Int) == (j : Int)) = false := by simp; omega
  have hz2 : ((j : Int) == (n : Int)) = false := by simp; omega
  have hz3 : ¬ ((cap : Int) < (t : Int)) := by omega
  have hz4 : ¬ ((i : Int) + (m : Int) ≤ (j : Int)) := by omega
  have hw1 : IntKind.i64.wrap ((i : Int) + (m : Int)) = (i : Int) + (m : Int) := by rw [IntKind.wrap_i64]; omega
  have hb1 : (0 : Int) ≤ (i : Int) + (m : Int) := by omega
  have hin : i ≤ n := by omega
  have hjn : j ≤ n := by omega
  have hit : i ≤ t := by omega
  have himt : i + m ≤ t := by omega
  have htn : ((i : Int) + (m : Int)).toNat = i + m := by omega
  have hb2 : ¬ (cap = i + m) := by omega
  have hb3 : (i : Int) ≤ (t : Int) := by omega
  have hb4 : ¬ (cap = i) := by omega
  have hb5 : ¬ (cap = j) := by omega
  have hb6 : (i : Int) + (m : Int) ≤ (t : Int) := by omega
  clear hq hr hq1 hh1 hl1 hc1 hW1 hdl hsz hn' hm' hne ht ht' hG
  go_enter Try.func37, Try.ntmps37
  go_wp2_with fail
  go_region
  go_wp2_with (simp only [hov])
  go_region_law (refine step_copy_runI rfl _ _ 40 40 rfl _ _ (by simp [Act.eval, Act.put]) (by simp [Act.eval, Act.put]) (hcp1 _ _ _) ?_)
  all_goals
    go_wp2_with (at_builtin; refine wpList_copy_runI _ rfl _ _ 40 40 rfl _ _ rfl rfl (hcp2 _ _) ?_)
    go_ret
    exact HK.out

set_option maxHeartbeats 4000000 in
set_option maxRecDepth 100000 in
theorem replace_fit {w : World} {g cap base capq : Nat} {cur : List Value} {P Q : List E} (i j : Nat) (sp : Option Addr) (hbg : base ≤ g) (hr : Row w g cap cur P)
    (hq : ∀ w' : World, (∀ k, k ≠ g → w'.heap[k]? = w.heap[k]?) → 0 < Q.length → ∃ ad, sp = some ad ∧ ∀ k v, (EC Q)[k]? = some v → w'.cell? (ad.add k) = some v)
    (hij : i < j) (hj : j < P.length) (hx : i + Q.length ≤ j) (hP : P.length ≤ 1000000) :
    Calls Try.prog 37 #[.slice (some ⟨g, 0, none⟩) P.length cap, .int .i64 i, .int .i64 j, .slice sp Q.length capq] w (InsOut w base (.slice (some ⟨g, 0, none⟩) P.length cap) (P.take i ++ Q ++ P.drop j)) := by
  have hmx : cap ≤ 9223372036854775807 := by have := hr.mx; unfold maxLen at this; omega
  have hsz := hr.sz
  have hle := hr.le
  have hdl : (EC (P.drop j)).length = (P.length - j) * 4 := by rw [EC_len, List.length_drop]
  have hcp1 : ∀ ty dc, (Builtin.copy_ #[40, 40] ty #[.slice (some ⟨g, i * 4, none⟩) (i + Q.length + (P.length - j) - i) dc, .slice sp Q.length capq]).run Try.prog w.drew = .ok (goInt Q.length) (w.drew.setRow g (splice cur (i * 4) (EC Q)).toArray) := fun ty dc =>
    run_copy4 w.drew 40 40 ty 32 g (i * 4) _ dc _ _ capq cur 32 (EC Q) Q.length Try.underlying40 Try.sz40 hr.h (by simp only [Nat.min_def]; split <;> omega) (EC_len Q) (hq w.drew (fun _ _ => rfl)) (by rw [EC_len, hsz]; omega) (EC_one _)
  have hl1 : (splice cur (i * 4) (EC Q)).length = cap * 4 := by rw [length_splice _ _ _ (by rw [EC_len, hsz]; omega), hsz]
  have ht := bc_take (Q := Q) i j hr (by omega) (by omega)
  have hge : ∀ k, j * 4 ≤ k → (splice cur (i * 4) (EC Q))[k]? = cur[k]? := fun k hk => splice_ge _ _ _ _ (by rw [EC_len]; omega) (by rw [hsz]; omega)
  obtain ⟨c1, hc1⟩ : ∃ c1, splice cur (i * 4) (EC Q) = c1 := ⟨_, rfl⟩
  rw [hc1] at hcp1 hl1 ht hge
  obtain ⟨W1, hW1⟩ : ∃ W1, w.drew.setRow g c1.toArray = W1 := ⟨_, rfl⟩
  rw [hW1] at hcp1
  have hh1 : W1.heap[g]? = some (.cells c1.toArray 32 (0, 0)) := by rw [← hW1]; exact setRow_heap w.drew g _ _ _ _ hr.h
  have hcp2 : ∀ ty dc sc, (Builtin.copy_ #[40, 40] ty #[.slice (some ⟨g, (i + Q.length) * 4, none⟩) (i + Q.length + (P.length - j) - (i + Q.length)) dc, .slice (some ⟨g, j * 4, none⟩) (P.length - j) sc]).run Try.prog W1.drew = .ok (goInt (P.length - j : Nat)) (W1.drew.setRow g (splice c1 ((i + Q.length) * 4) (EC (P.drop j))).toArray) := fun ty dc sc =>
    run_copy4 W1.drew 40 40 ty 32 g ((i + Q.length) * 4) _ dc _ _ sc c1 32 (EC (P.drop j)) (P.length - j) Try.underlying40 Try.sz40 hh1 (by simp only [Nat.min_def]; split <;> omega) hdl (fun _ => ⟨_, rfl, hr.at_of j hh1 hge⟩) (by rw [hdl, hl1]; omega) (EC_one _)
  have hl2 : (splice c1 ((i + Q.length) * 4) (EC (P.drop j))).length = cap * 4 := by rw [length_splice _ _ _ (by rw [hdl, hl1]; omega), hl1]
  obtain ⟨c2, hc2⟩ : ∃ c2, splice c1 ((i + Q.length) * 4) (EC (P.drop j)) = c2 := ⟨_, rfl⟩
  rw [hc2] at hcp2 hl2 ht
  obtain ⟨W2, hW2⟩ : ∃ W2, W1.drew.setRow g c2.toArray = W2 := ⟨_, rfl⟩
  rw [hW2] at hcp2
  have hh2 : W2.heap[g]? = some (.cells c2.toArray 32 (0, 0)) := by rw [← hW2]; exact setRow_heap W1.drew g _ _ _ _ hh1
  have hG : InG w W2 g := by rw [← hW2, ← hW1]; exact (((InG.refl w g).drew).set _).drew.set _
  obtain ⟨W3, hW3⟩ : ∃ W3, W2.setRow g (splice c2 ((i + Q.length + (P.length - j)) * 4) (Builtin.zeroCells (Value.agg #[.int .i64 0, .int .i64 0, .int .i64 0, .int .i64 0]).cells (P.length - (i + Q.length + (P.length - j)))).toList).toArray = W3 := ⟨_, rfl⟩
  have hzl : (Builtin.zeroCells (Value.agg #[.int .i64 0, .int .i64 0, .int .i64 0, .int .i64 0]).cells (P.length - (i + Q.length + (P.length - j)))).toList.length = (P.length - (i + Q.length + (P.length - j))) * 4 := by simp [size_zeroCells, Value.cells]
  have HCL : Hid (∀ (a : Addr), (0 < P.length - (i + Q.length + (P.length - j)) → a = ⟨g, (i + Q.length + (P.length - j)) * 4, none⟩) → ∀ ty c, (Builtin.clear_ #[40] ty #[.slice (some a) (P.length - (i + Q.length + (P.length - j))) c]).run Try.prog W2 = .ok (.tuple #[]) W3) := by
    intro a ha ty c
    rw [← hW3]
    exact run_clear4 (P := Try.prog) W2 40 32 ty _ Try.underlying40 zv32 rfl (by simp [Value.cells]; rfl) g ((i + Q.length + (P.length - j)) * 4) (P.length - (i + Q.length + (P.length - j))) c a c2 32 hh2 ha (by rw [hl2]; omega)
  have HK : Hid (InsOut w base (.slice (some ⟨g, 0, none⟩) P.length cap) (P.take i ++ Q ++ P.drop j) (.returned (.slice (some ⟨g, 0, none⟩) (i + Q.length + (P.length - j)) cap)) W3) := by
    rw [← hW3]
    refine ⟨_, rfl, own_bc i j hr hbg (by omega) (by omega) (by omega) (setRow_heap W2 g _ _ _ _ hh2) (by rw [length_splice _ _ _ (by rw [hzl, hl2]; omega), hl2]) ?_, (hG.set _).rw⟩
    rw [splice_take _ _ _ _ (Nat.le_refl _) (by rw [hl2]; omega)]
    exact ht
  generalize (P.take i ++ Q ++ P.drop j) = RR at *
  generalize hn' : P.length = n at *
  generalize hm' : Q.length = m at *
  obtain ⟨t, ht'⟩ : ∃ t, i + m + (n - j) = t := ⟨_, rfl⟩
  rw [ht'] at hcp1 hcp2 HCL HK
  have htt : (i : Int) + (m : Int) + ((n : Int) - (j : Int)) = (t : Int) := by omega
  have htt2 : (i : Int) + (m : Int) + ((n - j : Nat) : Int) = (t : Int) := by omega
  have hz1 : ((i : Int) == (j : Int)) = false := by simp; omega
  have hz2 : ((j : Int) == (n : Int)) = false := by simp; omega
  have hz3 : ¬ ((cap : Int) < (t : Int)) := by omega
  have hz4 : ((i : Int) + (m : Int) ≤ (j : Int)) := by omega
  have hw1 : IntKind.i64.wrap ((i : Int) + (m : Int)) = (i : Int) + (m : Int) := by rw [IntKind.wrap_i64]; omega
  have hb1 : (0 : Int) ≤ (i : Int) + (m : Int) := by omega
  have hin : i ≤ n := by omega
  have hjn : j ≤ n := by omega
  have hit : i ≤ t := by omega
  have himt : i + m ≤ t := by omega
  have htn : ((i : Int) + (m : Int)).toNat = i + m := by omega
  have hb2 : ¬ (cap = i + m) := by omega
  have hb3 : (i : Int) ≤ (t : Int) := by omega
  have hb4 : ¬ (cap = i) := by omega
  have hb5 : ¬ (cap = j) := by omega
  have hb6 : (i : Int) + (m : Int) ≤ (t : Int) := by omega
  have hb7 : t ≤ n := by omega
  have hb8 : t ≤ cap := by omega
  have hb9 : (t : Int) ≤ (n : Int) := by omega
  clear hq hr hh1 hl1 hc1 hW1 hdl hsz hn' hm' ht ht' hG hge hh2 hl2 hc2 hW2 hW3 hzl
  by_cases hct : cap = t
  · have hnt : n = t := by omega
    subst hnt
    have hcl := HCL.out ⟨g, 0, none⟩ (fun h => by omega)
    rw [Nat.sub_self] at hcl
    subst hct
    go_enter Try.func37, Try.ntmps37
    go_wp2_with fail
    go_region
    go_wp2_with (at_builtin; refine wpList_copy_runI _ rfl _ _ 40 40 rfl _ _ rfl rfl (hcp1 _ _) ?_)
    go_region_law (refine step_copy_runI rfl _ _ 40 40 rfl _ _ (by simp [Act.eval, Act.put]) (by simp [Act.eval, Act.put]) (hcp2 _ _ _) ?_)
    all_goals
      go_wp2_with (at_builtin; refine wpList_clear_runI _ rfl _ 40 rfl _ rfl (hcl _ _) ?_)
      go_ret
      exact HK.out
  · have hcl := HCL.out ⟨g, t * 4, none⟩ (fun h => rfl)
    go_enter Try.func37, Try.ntmps37
    go_wp2_with fail
    go_region
    go_wp2_with (at_builtin; refine wpList_copy_runI _ rfl _ _ 40 40 rfl _ _ rfl rfl (hcp1 _ _) ?_)
    go_region_law (refine step_copy_runI rfl _ _ 40 40 rfl _ _ (by simp [Act.eval, Act.put]) (by simp [Act.eval, Act.put]) (hcp2 _ _ _) ?_)
    all_goals
      go_wp2_with (at_builtin; refine wpList_clear_runI _ rfl _ 40 rfl _ rfl (hcl _ _) ?_)
      go_ret
      exact HK.out
end Go.Proofs.Ytajgjkkggppbiaa
