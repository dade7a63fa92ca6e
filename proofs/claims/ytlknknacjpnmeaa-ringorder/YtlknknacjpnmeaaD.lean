/-
  The first texts go.
-/
import Derived.Test.YtlknknacjpnmeaaC
namespace Go.Proofs.Ytlknknacjpnmeaa
open Go.RowKit
set_option linter.unusedVariables false

theorem wpList_clear_runI {P : Program} (w : World) {ops : Array Oper} {rest : List Oper} {o : Oper} {a : Act} {Q : Exit → Act → World → Prop} (hgd : o.guard = none) (d : Operand) (t : TypeId)
    (ho : o.op = .call { callee := .builtin .clear, args := #[d], argTypes := #[t] }) (v : Value) (hd : a.eval d = v) {v' : Value} {w' : World}
    (hr : (Builtin.clear_ #[t] o.type #[v]).run P w = .ok v' w') (h : wpList P ops Q rest (a.put o.dst v') w') : wpList P ops Q (o :: rest) a w :=
  wpList_plain hgd fun _ hK => by
    unfold Oper.wp execOp
    simp only [ho, resolve, invoke, builtin, Sem.run_bind, Sem.run_pure, Result.andThen_ok, List.map_toArray, List.map_cons, List.map_nil, hd, hr]
    exact hK _ _ h
theorem grown_setRow (w : World) (g : Nat) (cs : Array Value) : w.grownBy (w.setRow g cs) (some g) := ⟨rfl, rfl, rfl, by simp [World.setRow], fun k hk hne => setRow_other w g k cs (fun e => hne (by rw [e]))⟩
/-- clear of a part of a row of texts. -/
theorem clear_part (w : World) (ty : TypeId) (g off n c : Nat) (cur : Array Value) (hn : 0 < n) (hg : w.heap[g]? = some (.cells cur 9 (0, 0))) (hfit : off + n ≤ cur.size) :
    ∃ W cur1, (Builtin.clear_ #[27] ty #[.slice (some ⟨g, off, none⟩) n c]).run Try.prog w = .ok (.tuple #[]) W ∧ W.heap[g]? = some (.cells cur1 9 (0, 0)) ∧ cur1.size = cur.size ∧ (∀ q, off + n ≤ q → cur1.toList.drop q = cur.toList.drop q) ∧ w.grownBy W (some g) := by
  have hzc : (Builtin.zeroCells (Value.string ⟨#[]⟩).cells n).toList = List.replicate n (Value.string ⟨#[]⟩) := by
    rw [show (Value.string ⟨#[]⟩).cells = #[Value.string ⟨#[]⟩] from rfl]
    simp [Builtin.zeroCells]
    apply List.ext_getElem
    · simp
    · intro i h1 h2
      simp [Nat.mod_one]
  have hst := run_storeCells_at Try.prog g off 9 (List.replicate n (Value.string ⟨#[]⟩)) 0 cur w hg (by simpa using hfit) (by intro v hv'; rw [List.eq_of_mem_replicate hv']; rfl)
  simp only [Nat.add_zero, List.length_replicate] at hst
  obtain ⟨m, rfl⟩ : ∃ m, n = m + 1 := ⟨n - 1, by omega⟩
  refine ⟨w.setRow g (cur.toList.take off ++ List.replicate (m + 1) (Value.string ⟨#[]⟩) ++ cur.toList.drop (off + (m + 1))).toArray, (cur.toList.take off ++ List.replicate (m + 1) (Value.string ⟨#[]⟩) ++ cur.toList.drop (off + (m + 1))).toArray, ?_, setRow_heap w g _ _ _ _ hg, ?_, fun q hq => ?_, grown_setRow w g _⟩
  · simp [Builtin.clear_, run_underlying Try.underlying27, hzc]
    rw [hst, List.append_assoc]
    rfl
  · simp
    omega
  · rw [List.toList_toArray, List.drop_append, List.drop_of_length_le (by simp; omega), List.nil_append, List.drop_drop]
    congr 1
    simp
    omega
/-- What is left when the first k went. -/
theorem tl_cut {W : World} {base g off cap k : Nat} {cur cur1 : Array Value} {P : List ByteArray} (hbg : base ≤ g) (hh : W.heap[g]? = some (.cells cur1 9 (0, 0))) (hsz : off + P.length ≤ cur.size) (hs1 : cur1.size = cur.size) (hd : cur1.toList.drop (off + k) = cur.toList.drop (off + k))
    (ht : (cur.toList.drop off).take P.length = SC P) (hk : k ≤ P.length) (hm : P.length ≤ maxLen) : Tl W base (.slice (some (if P.length = k then ⟨g, off, none⟩ else ⟨g, off + k, none⟩)) (P.length - k) (P.length - k)) (P.drop k) := by
  have hl : (P.drop k).length = P.length - k := by simp
  by_cases h : P.length = k
  · rw [if_pos h]
    refine .inr ⟨g, off, _, cur1, by rw [hl], hbg, hh, by rw [hl]; omega, ?_, by omega, by omega, .inl hl.symm⟩
    rw [hl, h, Nat.sub_self, List.take_zero, List.drop_of_length_le (by omega)]
    rfl
  · rw [if_neg h]
    refine .inr ⟨g, off + k, _, cur1, by rw [hl], hbg, hh, by rw [hl]; omega, ?_, by omega, by omega, .inl hl.symm⟩
    rw [hl, hd, ← SC_drop, ← ht, List.drop_take, List.drop_drop]
set_option maxRecDepth 100000 in
set_option maxHeartbeats 2000000 in
theorem drop_any (base b : Nat) (v : Value) (mo : Int) (P : List ByteArray) (n : Int) (w : World) (h : RI w base b v mo P) :
    Calls Try.prog 16 #[.pointer (some ⟨b, 0, none⟩), .int .i64 n] w (ChOut w base b v mo (P.drop (M.cut P n)) (.int .i64 (M.cut P n))) := by
  have hlen := len_any base b v mo P w h
  obtain ⟨⟨c0, c1⟩, cf⟩ := row2 h.row
  have hce := M.cut_eq P n
  have hcl := M.cut_le P n
  obtain ⟨mx, hmx⟩ : ∃ x, max n 0 = x := ⟨_, rfl⟩
  rw [hmx] at hce
  have hP : P.length ≤ 64 := by have := h.len; have := h.m.2; omega
  generalize M.cut P n = k at *
  by_cases hk0 : k = 0
  · subst hk0
    have HK : Hid (ChOut w base b v mo (P.drop 0) (.int .i64 ((0 : Nat) : Int)) (.returned (.int .i64 0)) w) := ⟨v, rfl, h, Ch.refl _ _ _⟩
    clear h cf
    go_enter Try.func16, Try.ntmps16
    go_wp2_with fail
    refine hlen.mono ?_
    rintro e w1 ⟨rfl, rfl⟩
    go_wp2
    go_ret
    exact HK.out
  · have hX := h
    have hown := h.own
    rcases hown with ⟨_, rfl⟩ | ⟨g, off, cap, cur, rfl, hbg, hh, hsz, ht, hc, hm, hcap⟩
    · simp at hcl; omega
    · obtain ⟨W1, cur1, hclr, hh1, hs1, hd1, hg1⟩ := clear_part w 0 g off k cap cur (by omega) hh (by omega)
      have hRw : ∀ v', v'.ownBlock = some g → Rw w (.slice (some ⟨g, off, none⟩) P.length cap) W1 v' := fun v' e => ⟨hg1, fun q hq => .inl (by rw [e] at hq; exact hq)⟩
      have hT := tl_cut (W := W1) (cap := cap) hbg hh1 hsz hs1 (hd1 (off + k) (by omega)) ht hcl (by unfold maxLen; omega)
      obtain ⟨⟨e0, e1⟩, ef⟩ := h.c1 (hRw (.slice (some ⟨g, off, none⟩) P.length cap) rfl)
      have ef1 := ef 1
      have HFIN : Hid (∀ v' W, v' = Value.slice (some (if P.length = k then ⟨g, off, none⟩ else ⟨g, off + k, none⟩)) (P.length - k) (P.length - k) → (W = W1.setCell ⟨b, 1, none⟩ v' ∨ W = (W1.setCell ⟨b, 1, none⟩ v').drew) → ChOut w base b (.slice (some ⟨g, off, none⟩) P.length cap) mo (P.drop k) (.int .i64 k) (.returned (.int .i64 k)) W) := by
        rintro v' W rfl hW
        obtain ⟨r1, r2⟩ := hX.put (hRw _ (by split <;> rfl)) hT (by have := h.len; simp; omega) (fun s hs => h.sz s (List.mem_of_mem_drop hs))
        rcases hW with rfl | rfl
        · exact ⟨_, rfl, r1, r2⟩
        · exact ⟨_, rfl, r1.keep (Below.drew (Below.refl _ _)), r2.trans (Ch.ofBelow (Below.drew (Below.refl _ _)))⟩
      have hm' : cap ≤ 9223372036854775807 := by unfold maxLen at hm; omega
      have hkc : k ≤ cap := by omega
      have hcap0 : ¬ cap = 0 := by omega
      clear h hX hRw hT ef hcap ht hm hh hh1 hs1 hd1 hg1 hsz cf
      generalize P.drop k = PD at *
      generalize P.length = pl at *
      have hk0' : ¬ ((k : Int) = 0) := by omega
      have hkp : (k : Int) ≤ (pl : Int) := by omega
      by_cases hpk : pl = k
      · subst hpk
        go_enter Try.func16, Try.ntmps16
        go_wp2_with fail
        refine hlen.mono ?_
        rintro e w1 ⟨rfl, rfl⟩
        go_wp2_with (at_builtin; refine wpList_clear_runI _ rfl _ 27 rfl _ rfl hclr ?_)
        go_region
        all_goals
          go_wp2
          go_ret
          exact HFIN.out _ _ (by simp) (.inr rfl)
      · go_enter Try.func16, Try.ntmps16
        go_wp2_with fail
        refine hlen.mono ?_
        rintro e w1 ⟨rfl, rfl⟩
        go_wp2_with (at_builtin; refine wpList_clear_runI _ rfl _ 27 rfl _ rfl hclr ?_)
        go_region
        all_goals
          go_wp2
          go_ret
          exact HFIN.out _ _ (by rw [if_neg hpk]) (.inr rfl)
end Go.Proofs.Ytlknknacjpnmeaa
