/-
  Rows of ints copied by append, one behind the other; the document's Apart and Group.
-/
import Derived.Test.YtgcfpihfoekllaaRB
namespace Go.Proofs.Ytgcfpihfoekllaa
open Go.RowKit
set_option linter.unusedVariables false

theorem append_none (ad a1 : Option Addr) (n c1 c : Nat) (w : World) (ty : TypeId) (hle : n ≤ c1) : (Builtin.append_ #[30, 30] ty #[.slice a1 n c1, .slice ad 0 c]).run Try.prog w = .ok (.slice a1 n c1) w := by
  cases ad with
  | none => cases a1 <;> simp [Builtin.append_, run_underlying Try.underlying30, sizeOf, typeInfo, hi3, Builtin.lenOf, Builtin.firstCells, hle, storeCells]
  | some ad =>
    have hl := run_loadCells_list (P := Try.prog) w ad [] (by simp)
    simp at hl
    cases a1 <;> simp [Builtin.append_, run_underlying Try.underlying30, sizeOf, typeInfo, hi3, Builtin.lenOf, Builtin.firstCells, hl, hle, storeCells]
/-- An append whose run is known, at a guarded step that is wanted. -/
theorem wpList_append_guarded {P : Program} {w : World} {ops : Array Oper} {rest : List Oper} {o : Oper} {a : Act} {Q : Exit → Act → World → Prop} (hw : Region.wanted o (yielded ops a.tmps) = true) (s x : Operand) (t : TypeId)
    (ho : o.op = .call { callee := .builtin .append, args := #[s, x], argTypes := #[t, t] }) (v sv : Value) (hs : a.eval s = v) (hx : a.eval x = sv) (v' : Value) (w' : World)
    (hr : (Builtin.append_ #[t, t] o.type #[v, sv]).run P w = .ok v' w') (h : wpList P ops Q rest (a.put o.dst v') w') : wpList P ops Q (o :: rest) a w := by
  refine wpList_step fun K' hK' => ?_
  rw [if_pos hw]
  unfold Oper.wp execOp
  simp only [ho, resolve, invoke, builtin, Sem.run_bind, Sem.run_pure, Result.andThen_ok, List.map_toArray, List.map_cons, List.map_nil, hs, hx, hr]
  exact hK' _ _ h
/-- A row, copied into new memory. -/
theorem copyA (w : World) (a : Option Addr) (c : Nat) (s : List Int) (hs : AtL il w a s) (hl : s.length ≤ 1000000) :
    ∃ a' c' w', (∀ ty, (Builtin.append_ #[30, 30] ty #[.slice none 0 0, .slice a s.length c]).run Try.prog w = .ok (.slice a' s.length c') w') ∧ OwnL il 3 w' w.heap.size (.slice a' s.length c') s ∧ Below w.heap.size w w' := by
  cases s with
  | nil => exact ⟨none, 0, w, fun ty => run_append_nil0 tiI w ty a c, OwnL.nil _ _ _, Below.refl _ _⟩
  | cons e r =>
    obtain ⟨b, off, rfl, _⟩ := hs 0 (by simp)
    obtain ⟨a', c', w', h1, h2, h3⟩ := run_appL_ty tiI w w.heap.size (.slice none 0 0) [] (e :: r) b off c _ (OwnL.nil _ _ _) hs rfl (Nat.le_refl _) (by simp at hl ⊢; omega)
    simp only [List.length_nil, Nat.zero_add, List.nil_append] at h1 h2 h3
    exact ⟨a', c', w', h1, h2, h3.below (fun k hk => by simp [Value.ownBlock] at hk) (Nat.le_refl _)⟩
/-- A row, appended to a row of one's own. -/
theorem appA (w : World) (base : Nat) (a1 : Option Addr) (c1 : Nat) (l : List Int) (a : Option Addr) (c : Nat) (s : List Int) (ho : OwnL il 3 w base (.slice a1 l.length c1) l) (hs : AtL il w a s) (hb : base ≤ w.heap.size) (hl : l.length + s.length ≤ 1000000) :
    ∃ a' c' w', (∀ ty, (Builtin.append_ #[30, 30] ty #[.slice a1 l.length c1, .slice a s.length c]).run Try.prog w = .ok (.slice a' (l ++ s).length c') w') ∧ OwnL il 3 w' base (.slice a' (l ++ s).length c') (l ++ s) ∧ Below base w w' := by
  cases s with
  | nil =>
    obtain ⟨a2, c2, e, hx, _⟩ := ho.at
    simp only [Value.slice.injEq] at e
    obtain ⟨rfl, _, rfl⟩ := e
    refine ⟨a1, c1, w, fun ty => ?_, by simpa using ho, Below.refl _ _⟩
    rw [List.append_nil]
    exact append_none a a1 l.length c1 c w ty hx.le
  | cons e r =>
    obtain ⟨b, off, rfl, _⟩ := hs 0 (by simp)
    obtain ⟨a', c', w', h1, h2, h3⟩ := run_appL_ty tiI w base (.slice a1 l.length c1) l (e :: r) b off c _ ho hs rfl hb hl
    rw [← List.length_append] at h1 h2 h3
    exact ⟨a', c', w', h1, h2, h3.below (fun k hk => (ho.lt hk).1) hb⟩
/-- Both at once: a row, and another one behind it, in new memory. -/
theorem copy2A (w : World) (a1 : Option Addr) (c1 : Nat) (l : List Int) (a2 : Option Addr) (c2 : Nat) (s : List Int) (h1 : AtL il w a1 l) (h2 : AtL il w a2 s) (hl : l.length + s.length ≤ 1000000) :
    ∃ a' c' w1 a'' c'' w2, (∀ ty, (Builtin.append_ #[30, 30] ty #[.slice none 0 0, .slice a1 l.length c1]).run Try.prog w = .ok (.slice a' l.length c') w1) ∧ (∀ ty, (Builtin.append_ #[30, 30] ty #[.slice a' l.length c', .slice a2 s.length c2]).run Try.prog w1 = .ok (.slice a'' (l ++ s).length c'') w2) ∧ OwnL il 3 w2 w.heap.size (.slice a'' (l ++ s).length c'') (l ++ s) ∧ Below w.heap.size w w2 ∧ Below w.heap.size w w1 := by
  obtain ⟨a', c', w1, r1, o1, b1⟩ := copyA w a1 c1 l h1 (by omega)
  obtain ⟨a'', c'', w2, r2, o2, b2⟩ := appA w1 w.heap.size a' c' l a2 c2 s o1 (h2.keep b1) b1.size hl
  exact ⟨a', c', w1, a'', c'', w2, r1, r2, o2, b1.trans b2, b1⟩
set_option maxRecDepth 100000 in
set_option maxHeartbeats 1000000 in
theorem refApart_any (a : Option Addr) (cap : Nat) (l : List Int) (w : World) (hl : l.length ≤ 1000000) (hc : l.length ≤ cap) (h : AtL il w a l) :
    Calls Try.prog 22 #[.slice a l.length cap] w fun e w' => e = .returned (.bool (Mb.apB l)) ∧ Below w.heap.size w w' := by
  go_enter Try.func22, Try.ntmps22
  go_wp2
  go_loopw [3] (fun i wr => ∃ k : Nat, k ≤ l.length ∧ i = .int .i64 k ∧ Hid (Mb.Ap (l.take k)) ∧ Hid (Below w.heap.size w wr)) (fun i _ => l.length - (intOf i).toNat)
  case atStart => exact ⟨0, by omega, rfl, Hid_of ⟨by simp, by simp⟩, Hid_of (Below.refl _ _)⟩
  case round =>
    obtain ⟨k, hk, rfl, HA, HB⟩ := hrel
    by_cases hlt : k < l.length
    · obtain ⟨b, off, rfl, c0⟩ := (h.keep HB.out).getI k hlt
      have hki : (k : Int) < (l.length : Int) := by omega
      have hstep := Hid_of (Mb.Ap.step hlt)
      have HNO : Hid (¬ ((0 ≤ l[k] ∧ l[k] ≤ 63) ∧ Mb.pl (l.take k) l[k] < 0) → Mb.apB l = false) := Hid_of fun hn => Mb.apB_no fun hp => hn (by
        have : Mb.Ap (l.take (k + 1)) := Mb.Ap.left (b := l.drop (k + 1)) (by rw [List.take_append_drop]; exact hp)
        exact (hstep.out.1 this).2)
      have hwr := h.keep HB.out
      have HAT : Hid (∀ wq : World, wq.heap = wr.heap → Calls Try.prog 42 #[.slice (some ⟨b, off, none⟩) k cap, .int .i64 l[k]] wq fun e w' => e = .returned (.int .i64 (Mb.pl (l.take k) l[k])) ∧ w' = wq) := Hid_of fun wq hq => by
        have hlk : (l.take k).length = k := by simp; omega
        have := refAt_any (some ⟨b, off, none⟩) cap (l.take k) l[k] wq (by omega) ((hwr.keepBut fun j _ _ => by rw [hq]).take k)
        rwa [hlk] at this
      have HS : Hid (∀ wq, Below w.heap.size w wq → wq.cell? ⟨b, off + k, none⟩ = some (.int .i64 l[k])) := Hid_of fun wq hq => by
        obtain ⟨b', off', e, c⟩ := (h.keep hq).getI k hlt
        cases e
        exact c
      have HD : Hid (∀ n, Below w.heap.size w (wr.drewN n)) := Hid_of fun n => below_drewN HB.out n
      clear h hwr
      generalize l[k] = x at *
      by_cases h1 : x < 0
      · have d1 : decide (x < 0) = true := decide_eq_true h1
        have HF := Hid_of (HNO.out (fun hh => by omega))
        clear HNO HAT HS hstep HA h1
        go_wp2_with fail
        go_quiet (fail)
        go_wp2
        go_ret
        exact ⟨by rw [HF.out]; rfl, HD.out _⟩
      · have d1 : decide (x < 0) = false := decide_eq_false h1
        by_cases h2 : 63 < x
        · have d2 : decide (63 < x) = true := decide_eq_true h2
          have HF := Hid_of (HNO.out (fun hh => by omega))
          clear HNO HAT HS hstep HA h1 h2
          go_wp2_with fail
          go_quiet (fail)
          go_wp2
          go_ret
          exact ⟨by rw [HF.out]; rfl, HD.out _⟩
        · have d2 : decide (63 < x) = false := decide_eq_false h2
          by_cases h3 : Mb.pl (l.take k) x < 0
          · have d3 : decide (0 ≤ Mb.pl (l.take k) x) = false := decide_eq_false (by omega)
            have HN : Hid (Mb.Ap (l.take (k + 1))) := Hid_of (hstep.out.2 ⟨HA.out, by omega, h3⟩)
            have hcl : (k : Int) ≤ (cap : Int) := by omega
            have hc2 : k ≤ cap := by omega
            clear HNO hstep HA h1 h2 h3
            generalize Mb.pl (l.take k) x = p at *
            go_wp2_with fail
            go_quiet ((go_at_call 42; refine Calls.quiet_of_same (HAT.out _ rfl)))
            go_wp2
            go_roundw
            case rel => exact ⟨k + 1, by omega, by go_num, HN, Hid_of (by first | exact HD.out _ | exact below_drewN (HD.out _) _)⟩
            case measure => simp [intOf]; omega
          · have d3 : decide (0 ≤ Mb.pl (l.take k) x) = true := decide_eq_true (by omega)
            have HF := Hid_of (HNO.out (fun hh => h3 hh.2))
            have hcl : (k : Int) ≤ (cap : Int) := by omega
            have hc2 : k ≤ cap := by omega
            clear HNO hstep HA h1 h2 h3
            generalize Mb.pl (l.take k) x = p at *
            go_wp2_with fail
            go_quiet ((go_at_call 42; refine Calls.quiet_of_same (HAT.out _ rfl)))
            go_wp2
            go_ret
            exact ⟨by rw [HF.out]; rfl, by first | exact HD.out _ | exact below_drewN (HD.out _) _⟩
    · have hkn : k = l.length := by omega
      subst hkn
      have HF : Hid (Mb.apB l = true) := Hid_of (Mb.apB_eq.2 (by have := HA.out; rwa [List.take_length] at this))
      clear HA h
      go_wp2
      go_ret
      exact ⟨by rw [HF.out]; rfl, HB.out⟩
theorem group_any (a : Option Addr) (c : Nat) (l : List Int) (w : World) (hl : l.length ≤ 1000000) (hc : l.length ≤ c) (h : AtL il w a l) : Calls Try.prog 80 #[.slice a l.length c] w fun e w' => e = .returned (.bool (decide (2 ≤ l.length ∧ l.length ≤ 8) && Mb.apB l)) ∧ Below w.heap.size w w' := by
  have hap := refApart_any a c l w hl hc h
  clear h
  by_cases h1 : 2 ≤ l.length
  · have d1 : decide ((2 : Int) ≤ (l.length : Int)) = true := decide_eq_true (by omega)
    by_cases h2 : l.length ≤ 8
    · have d2 : decide ((l.length : Int) ≤ 8) = true := decide_eq_true (by omega)
      rw [show decide (2 ≤ l.length ∧ l.length ≤ 8) = true from decide_eq_true ⟨h1, h2⟩]
      clear h1 h2
      go_enter Try.func80, Try.ntmps80
      go_wp2_with fail
      refine hap.mono ?_
      rintro e w2 ⟨rfl, hb⟩
      have HB := Hid_of hb
      clear hap hb
      go_wp2
      go_ret
      exact ⟨by simp, HB.out⟩
    · have d2 : decide ((l.length : Int) ≤ 8) = false := decide_eq_false (by omega)
      rw [show decide (2 ≤ l.length ∧ l.length ≤ 8) = false from decide_eq_false (fun h => h2 h.2)]
      clear hap h1 h2
      go_enter Try.func80, Try.ntmps80
      go_wp2
      go_ret
      exact ⟨rfl, Below.refl _ _⟩
  · have d1 : decide ((2 : Int) ≤ (l.length : Int)) = false := decide_eq_false (by omega)
    rw [show decide (2 ≤ l.length ∧ l.length ≤ 8) = false from decide_eq_false (fun h => h1 h.1)]
    clear hap h1
    go_enter Try.func80, Try.ntmps80
    go_wp2
    go_ret
    exact ⟨rfl, Below.refl _ _⟩
end Go.Proofs.Ytgcfpihfoekllaa
