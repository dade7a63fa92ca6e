/-
  A text goes in.
-/
import Derived.Test.YtlknknacjpnmeaaC
namespace Go.Proofs.Ytlknknacjpnmeaa
open Go.RowKit
set_option linter.unusedVariables false

/-- An append whose run is known, at a step of a region that draws its order. -/
theorem step_append_run {P : Program} {w : World} {ops : Array Oper} {o : Oper} {a : Act} {C : Act → World → Prop} {Q : Exit → Act → World → Prop} {E : Prop} (hgd : o.guard = none) (s x : Operand) (t : TypeId)
    (ho : o.op = .call { callee := .builtin .append, args := #[s, x], argTypes := #[t, t] }) (v sv : Value) (hs : a.eval s = v) (hx : a.eval x = sv) (v' : Value) (w' : World)
    (hr : (Builtin.append_ #[t, t] o.type #[v, sv]).run P w = .ok v' w') (h : C (a.put o.dst v') w') : if Region.wanted o (yielded ops a.tmps) = true then Oper.wp P o a w C Q else E := by
  have hw : Region.wanted o (yielded ops a.tmps) = true := by simp [Region.wanted, hgd]
  rw [if_pos hw]
  unfold Oper.wp execOp
  simp only [ho, resolve, invoke, builtin, Sem.run_bind, Sem.run_pure, Result.andThen_ok, List.map_toArray, List.map_cons, List.map_nil, hs, hx, hr]
  exact h
set_option maxRecDepth 100000 in
set_option maxHeartbeats 1000000 in
theorem put_no (base b : Nat) (v : Value) (mo : Int) (P : List ByteArray) (s : ByteArray) (w : World) (hss : s.size ≤ maxLen) (h : RI w base b v mo P) (hno : M.ok mo P s = false) :
    Calls Try.prog 12 #[.pointer (some ⟨b, 0, none⟩), .string s] w (ChOut w base b v mo P (.bool false)) := by
  have hroom := room_any base b v mo P w h
  obtain ⟨ho, _⟩ := M.ok_no hno
  have HK : Hid (∀ w', Below w.heap.size w w' → ChOut w base b v mo P (.bool false) (.returned (.bool false)) w') := fun w' hb => ⟨v, rfl, h.keep hb, Ch.ofBelow hb⟩
  have hle := h.len
  unfold maxLen at hss
  obtain ⟨r, hr⟩ : ∃ r, mo - (P.length : Int) = r := ⟨_, rfl⟩
  rw [hr] at hroom
  by_cases hz : r = 0
  · subst hz
    clear h hle hr
    go_enter Try.func12, Try.ntmps12
    go_wp2_with fail
    refine hroom.mono ?_
    rintro e w1 ⟨rfl, hb⟩
    have HQ := Hid_of (HK.out w1 hb)
    clear hb HK hroom
    go_wp2
    go_ret
    exact HQ.out
  · have hsz : 65536 < s.size := by omega
    have hz' : (r == 0) = false := by simpa using hz
    clear h hle hr ho hno
    go_enter Try.func12, Try.ntmps12
    go_wp2_with fail
    refine hroom.mono ?_
    rintro e w1 ⟨rfl, hb⟩
    have HQ := Hid_of (HK.out w1 hb)
    clear hb HK hroom
    go_wp2
    go_ret
    exact HQ.out
set_option maxRecDepth 100000 in
set_option maxHeartbeats 2000000 in
theorem put_yes (base b : Nat) (v : Value) (mo : Int) (P : List ByteArray) (s : ByteArray) (w : World) (hb : base ≤ w.heap.size) (h : RI w base b v mo P) (hok : M.ok mo P s = true) :
    Calls Try.prog 12 #[.pointer (some ⟨b, 0, none⟩), .string s] w (ChOut w base b v mo (P ++ [s]) (.bool true)) := by
  have hroom := room_any base b v mo P w h
  obtain ⟨h1, h2, _⟩ := M.ok_yes hok
  have hP : P.length ≤ 64 := by have := h.len; have := h.m.2; omega
  have HX := Hid_of h
  obtain ⟨r, hr⟩ : ∃ r, mo - (P.length : Int) = r := ⟨_, rfl⟩
  rw [hr] at hroom
  have hz' : (r == 0) = false := by simp; omega
  obtain ⟨a, cap, rfl, hat, _, hcl, hcm⟩ := h.own.at
  have HLEN : Hid ((P.length : Int) < mo) := h1
  clear h hr hat hok h1
  go_enter Try.func12, Try.ntmps12
  go_wp2_with fail
  refine hroom.mono ?_
  rintro e w1 ⟨rfl, hb1⟩
  have hX1 := HX.out.keep hb1
  -- the world behind the clone, the row of one text behind it, and what append leaves
  have HW : Hid (∀ w2, Below w1.heap.size w1 w2 → (w2.cell? ⟨b, 1, none⟩ = some (.slice a P.length cap)) ∧ (w2.alloc (.cells #[.string s] 9)).cell? ⟨b, 1, none⟩ = some (.slice a P.length cap) ∧
      ∃ g cp w3, (∀ ty, (Builtin.append_ #[27, 27] ty #[.slice a P.length cap, .slice (some ⟨w2.heap.size, 0, none⟩) 1 1]).run Try.prog (w2.alloc (.cells #[.string s] 9)) = .ok (.slice (some ⟨g, 0, none⟩) (P.length + 1) cp) w3) ∧
        (w3.cell? ⟨b, 1, none⟩ = some (.slice a P.length cap) ∧ w3.frozen? ⟨b, 1, none⟩ = false) ∧
        ∀ W, W = w3.setCell ⟨b, 1, none⟩ (.slice (some ⟨g, 0, none⟩) (P.length + 1) cp) → ChOut w base b (.slice a P.length cap) mo (P ++ [s]) (.bool true) (.returned (.bool true)) W) := by
    intro w2 hb2
    have hX2 := hX1.keep hb2
    have hX3 := hX2.keep (bel1 w2 (.cells #[.string s] 9))
    obtain ⟨⟨_, k1⟩, _⟩ := row2 hX2.row
    obtain ⟨⟨_, k2⟩, _⟩ := row2 hX3.row
    refine ⟨k1, k2, ?_⟩
    have hbb : base ≤ (w2.alloc (.cells #[.string s] 9)).heap.size := by have := hb1.size; have := hb2.size; simp; omega
    have happ := fun ty => hX3.own.app s ⟨w2.heap.size, 0, none⟩ 1 (cell_one _ w2.heap.size (.string s) 9 (heap_alloc_last w2 _)) (by omega) hbb ty
    obtain ⟨g, cp, w3, hrun, ho, hrw⟩ := happ 0
    obtain ⟨⟨_, m1⟩, m2⟩ := hX3.c1 hrw
    refine ⟨g, cp, w3, fun ty => ?_, ⟨m1, m2 1⟩, ?_⟩
    · exact hrun
    · rintro W rfl
      obtain ⟨r1, r2⟩ := hX3.put hrw ho.tl (by have := HLEN.out; simp; omega) (fun t ht => by
        rcases List.mem_append.1 ht with h' | h'
        · exact hX1.sz t h'
        · simp only [List.mem_singleton] at h'; subst h'; exact h2)
      exact ⟨_, rfl, r1, (Ch.ofBelow (bel_up hb1 (bel_up hb2 (bel1 w2 _) (Nat.le_refl _)) (Nat.le_refl _))).trans r2⟩
  obtain ⟨⟨_, c1⟩, _⟩ := row2 hX1.row
  clear hX1 HX hroom hb1 HLEN
  go_wp2_with fail
  go_region_law (first
    | (go_simp; go_at_call 22; refine (clone_any s _ (by omega)).mono ?_; rintro e w2 ⟨rfl, hb2⟩; obtain ⟨k1, k2, g, cp, w3, hrun, ⟨m1, m2⟩, hfin⟩ := HW.out w2 (Below.trans (Below.drew (Below.refl _ _)) hb2); have HF := Hid_of hfin; clear hfin hb2; go_simp)
    | (refine step_append_run rfl (.tmp 17) (.tmp 20) 27 rfl _ _ (by simp [Act.eval]) (by simp [Act.eval]) _ _ (hrun _) ?_))
  all_goals
    go_wp2
    go_ret
    exact HF.out _ rfl
theorem put_any (base b : Nat) (v : Value) (mo : Int) (P : List ByteArray) (s : ByteArray) (w : World) (hss : s.size ≤ maxLen) (hb : base ≤ w.heap.size) (h : RI w base b v mo P) :
    Calls Try.prog 12 #[.pointer (some ⟨b, 0, none⟩), .string s] w (ChOut w base b v mo (M.put mo P s) (.bool (M.ok mo P s))) := by
  cases hok : M.ok mo P s with
  | false => rw [(M.ok_no hok).2]; exact put_no base b v mo P s w hss h hok
  | true => rw [(M.ok_yes hok).2.2]; exact put_yes base b v mo P s w hb h hok
end Go.Proofs.Ytlknknacjpnmeaa
