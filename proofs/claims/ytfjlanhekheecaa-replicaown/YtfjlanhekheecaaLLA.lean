/-
  A learner: a new one; its base; what is told; the next slot; which slot may be told.
-/
import Derived.Test.YtfjlanhekheecaaLLP
import Derived.Test.YtfjlanhekheecaaSB
namespace Go.Proofs.Ytfjlanhekheecaa.Nl
open Go.RowKit Go.Maps
set_option linter.unusedVariables false
open Go.Proofs.Ytfjlanhekheecaa.M (E V)
open Go.Proofs.Ytfjlanhekheecaa.Nl.M (W fup)

theorem field87a (t : Bool) (v : ByteArray) (a : Value) (w : World) : (Instr.field 87 (.agg #[.bool t, .string v, a]) 0).run Try.prog w = .ok (.bool t) w := by kernel_rfl
theorem field87b (t : Bool) (v : ByteArray) (a : Value) (w : World) : (Instr.field 87 (.agg #[.bool t, .string v, a]) 1).run Try.prog w = .ok (.string v) w := by kernel_rfl
theorem field87c (t : Bool) (v : ByteArray) (a : Value) (w : World) : (Instr.field 87 (.agg #[.bool t, .string v, a]) 2).run Try.prog w = .ok a w := by kernel_rfl
theorem wf_small {k : Int} (h0 : 0 ≤ k) (h1 : k ≤ 4096) : (Lit.int .i64 k).wf = true := by
  have e1 : IntKind.i64.min = -9223372036854775808 := rfl
  have e2 : IntKind.i64.max = 9223372036854775807 := rfl
  simp only [Lit.wf, e1, e2, Bool.and_eq_true, decide_eq_true_eq]
  omega
/-- What New leaves. -/
def NewOut (w : World) (n : Int) (e : Ending) (w' : World) : Prop :=
  (M.nde n = false ∧ e = .returned (.pointer none) ∧ w' = w) ∨ (M.nde n = true ∧ ∃ b m, e = .returned (.pointer (some ⟨b, 0, none⟩)) ∧ LI w' w.heap.size b m (M.s0 n) (fun _ => none) ∧ Below w.heap.size w w')
set_option maxHeartbeats 400000 in
theorem new_any (n : Int) (w : World) : Calls Try.prog 26 #[.int .i64 n] w (NewOut w n) := by
  by_cases h0 : n < 1
  · have HN : Hid (M.nde n = false) := Hid_of (by unfold M.nde; simp; omega)
    have d0 : decide (n < 1) = true := decide_eq_true h0
    clear h0
    go_enter Try.func26, Try.ntmps26
    go_wp2
    go_ret
    exact .inl ⟨HN.out, rfl, rfl⟩
  · have d0 : decide (n < 1) = false := decide_eq_false h0
    by_cases h1 : 7 < n
    · have HN : Hid (M.nde n = false) := Hid_of (by unfold M.nde; simp; omega)
      have d1 : decide (7 < n) = true := decide_eq_true h1
      clear h0 h1
      go_enter Try.func26, Try.ntmps26
      go_wp2
      go_ret
      exact .inl ⟨HN.out, rfl, rfl⟩
    · have HN : Hid (M.nde n = true) := Hid_of (by unfold M.nde; simp; omega)
      have d1 : decide (7 < n) = false := decide_eq_false h1
      clear h0 h1
      have hmm := @run_makeMap Try.prog
      have hb1 : Below w.heap.size w ((w.alloc (.map #[] 0)).alloc (.cells #[.int .i64 n, .int .i64 0, .map (some w.heap.size)] 84)) := (bel1 w (.map #[] 0)).alloc (by simp) _
      have hh := heap_alloc2_old w (.map #[] 0) (.cells #[.int .i64 n, .int .i64 0, .map (some w.heap.size)] 84)
      have hn := heap_alloc2_new w (.map #[] 0) (.cells #[.int .i64 n, .int .i64 0, .map (some w.heap.size)] 84)
      have HK : Hid (NewOut w n (.returned (.pointer (some ⟨w.heap.size + 1, 0, none⟩))) ((w.alloc (.map #[] 0)).alloc (.cells #[.int .i64 n, .int .i64 0, .map (some w.heap.size)] 84))) := by
        refine .inr ⟨HN.out, w.heap.size + 1, w.heap.size, rfl, ⟨hn, (MI.made w).keep ?_, fun k v e => (by cases e), fun _ _ _ => rfl, fun k _ e => absurd rfl e, fun k j g e => (by cases e), ⟨by omega, Nat.le_refl _⟩⟩, hb1⟩
        rw [hh]
        exact (heap_alloc_last w _).symm
      clear hb1 hh hn HN
      go_enter Try.func26, Try.ntmps26
      go_wp2
      go_ret
      exact HK.out
section
variable {w : World} {base b m : Nat} {s : M.S} {f : Int → Option K}
theorem base_any (h : LI w base b m s f) : Calls Try.prog 40 #[.pointer (some ⟨b, 0, none⟩)] w fun e w' => e = .returned (.int .i64 s.base) ∧ w' = w := by
  obtain ⟨⟨c0, c1, c2⟩, _⟩ := row3 h.row
  clear h
  go_enter Try.func40, Try.ntmps40
  go_wp2
  go_ret
  exact ⟨rfl, rfl⟩
set_option maxHeartbeats 400000 in
theorem next_any (h : LI w base b m s f) (ok : M.Ok s) : Calls Try.prog 27 #[.pointer (some ⟨b, 0, none⟩)] w fun e w' => e = .returned (.int .i64 (M.nx s)) ∧ w' = w := by
  obtain ⟨⟨c0, c1, c2⟩, _⟩ := row3 h.row
  obtain ⟨n1, n2, n3, n4⟩ := ok.nx
  have hb := ok.base
  have H := Hid_of h
  have N1 := Hid_of n1
  have N2 := Hid_of n2
  have NB : Hid (∃ z, z = s.base) := ⟨_, rfl⟩
  generalize M.nx s = N at *
  clear h ok n1 n2
  go_enter Try.func27, Try.ntmps27
  go_wp2
  go_loopw [3] (fun i wr => ∃ k : Int, s.base ≤ k ∧ k ≤ N ∧ i = .int .i64 k ∧ wr = w) (fun i _ => (N - intOf i).toNat)
  case atStart => exact ⟨s.base, by omega, by omega, rfl, rfl⟩
  case round =>
    obtain ⟨k, hk1, hk2, rfl, rfl⟩ := hrel
    have hlk := H.out.look k (wf_small (by omega) (by omega))
    have ht := H.out.told k
    obtain ⟨⟨t, v, a⟩, hp⟩ : ∃ p, (f k).getD k0 = p := ⟨_, rfl⟩
    rw [hp] at hlk ht
    replace hlk : (Instr.lookup 82 (.map (some m)) (.int .i64 k) false).run Try.prog wr = .ok (.agg #[.bool t, .string v, svV a]) wr := hlk
    generalize svV a = sa at *
    have fa := field87a t v sa
    by_cases hlt : k < N
    · rw [N1.out k hk1 hlt] at ht
      simp only at ht
      subst ht
      clear hp
      go_wp2
      go_roundw
      case rel => exact ⟨k + 1, by omega, by omega, by go_num, trivial⟩
      case measure => simp [intOf]; omega
    · obtain rfl : k = N := by omega
      rw [N2.out] at ht
      simp only [Option.isSome_none] at ht
      subst ht
      clear hp
      go_wp2
      go_ret
      exact ⟨rfl, rfl⟩
set_option maxHeartbeats 400000 in
theorem mayTell_any (h : LI w base b m s f) (k : Int) (hk : (Lit.int .i64 k).wf = true) (x : ByteArray) : Calls Try.prog 68 #[.pointer (some ⟨b, 0, none⟩), .int .i64 k, .string x] w fun e w' => e = .returned (.bool (M.may s k x)) ∧ w' = w := by
  have hlk := h.look k hk
  have ht := h.told k
  obtain ⟨⟨c0, c1, c2⟩, _⟩ := row3 h.row
  obtain ⟨⟨t, v, a⟩, hp⟩ : ∃ p, (f k).getD k0 = p := ⟨_, rfl⟩
  rw [hp] at hlk ht
  replace hlk : (Instr.lookup 82 (.map (some m)) (.int .i64 k) false).run Try.prog w = .ok (.agg #[.bool t, .string v, svV a]) w := hlk
  generalize svV a = sa at *
  have fa := field87a t v sa
  simp only at ht
  have HM : Hid (M.may s k x = (decide (s.base ≤ k) && (decide (k < 1024) && (decide (x.size ≤ 4096) && !(s.td k).isSome)))) := Hid_of rfl
  rw [HM.out, ← ht]
  clear h hp HM ht
  by_cases h0 : s.base ≤ k
  · have d0 : decide (s.base ≤ k) = true := decide_eq_true h0
    rw [d0]
    by_cases h1 : k < 1024
    · have d1 : decide (k < 1024) = true := decide_eq_true h1
      rw [d1]
      by_cases h2 : x.size ≤ 4096
      · have d2 : decide ((x.size : Int) ≤ (4096 : Int)) = true := decide_eq_true (by omega)
        rw [decide_eq_true h2]
        clear h0 h1 h2
        cases t with
        | false =>
          go_enter Try.func68, Try.ntmps68
          go_wp2
          go_ret
          exact ⟨rfl, rfl⟩
        | true =>
          go_enter Try.func68, Try.ntmps68
          go_wp2
          go_ret
          exact ⟨rfl, rfl⟩
      · have d2 : decide ((x.size : Int) ≤ (4096 : Int)) = false := decide_eq_false (by omega)
        rw [decide_eq_false h2]
        clear h0 h1 h2
        go_enter Try.func68, Try.ntmps68
        go_wp2
        go_ret
        exact ⟨rfl, rfl⟩
    · have d1 : decide (k < 1024) = false := decide_eq_false h1
      rw [d1]
      clear h0 h1
      go_enter Try.func68, Try.ntmps68
      go_wp2
      go_ret
      exact ⟨rfl, rfl⟩
  · have d0 : decide (s.base ≤ k) = false := decide_eq_false h0
    rw [d0]
    clear h0
    go_enter Try.func68, Try.ntmps68
    go_wp2
    go_ret
    exact ⟨rfl, rfl⟩
end
end Go.Proofs.Ytfjlanhekheecaa.Nl
